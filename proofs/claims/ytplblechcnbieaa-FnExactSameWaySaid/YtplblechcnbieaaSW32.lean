/-
  Texts of the proof, one behind the other: PtA, WyB.
-/
import Derived.Deep.MidRow
import Derived.Deep.RegionHeld3
import Derived.Test.YtplblechcnbieaaSW15
import Derived.Test.YtplblechcnbieaaSW18
import Derived.Test.YtplblechcnbieaaSW31

/-
  PathText of both sides: the texts of letters, one behind the other.
-/
namespace Go.Proofs.Ytplblechcnbieaa
open Go.RowKit Der
set_option linter.unusedVariables false

/-- The texts of letters, one behind the other. -/
def pathT (l : List Ct) : List UInt8 := l.flatMap fun c => (ctxt c).getD []
theorem ctxt_len (c : Ct) : ((ctxt c).getD []).length ≤ 4000 := by
  unfold ctxt
  split
  · unfold writeI
    split
    · rename_i h
      exact h.2
    · exact Nat.zero_le _
  · exact Nat.zero_le _
theorem pathT_take {l : List Ct} {k : Nat} (h : k < l.length) : pathT (l.take (k + 1)) = pathT (l.take k) ++ (ctxt l[k]).getD [] := by
  unfold pathT
  rw [List.take_succ_eq_append_getElem h, List.flatMap_append]
  simp
theorem pathT_len : ∀ (l : List Ct), (pathT l).length ≤ 4000 * l.length
  | [] => Nat.le_refl _
  | c :: l => by
    have h := pathT_len l
    have h2 := ctxt_len c
    show ((ctxt c).getD [] ++ pathT l).length ≤ _
    rw [List.length_append, List.length_cons]
    omega
theorem row_range {w : World} {g o : Nat} {c : Ct} {p e d : Value} (h : ∀ i x, (ctV c p e d).cells[i]? = some x → w.cell? ⟨g, o + i, none⟩ = some x) : w.rangeAt g o (ctV c p e d).cells.toList := fun j v hv => h j v (by rw [← Array.getElem?_toList]; exact hv)
theorem wdM {l : List Ct} {k : Nat} (h : wtM l ≤ 1048576) (hk : k < l.length) : wtC l[k] ≤ 1048576 := Nat.le_trans (wtM_mem (List.getElem_mem hk)) h
/-- What stands at a place of a row of letters, whatever world comes behind. -/
theorem at_letter {w : World} {ax : Option Addr} {n cx : Nat} {l : List Ct} {k : Nat} (h : AtS certKd w (.slice ax n cx) l) (hk : k < l.length) : ∃ g o p q e r d s, ax = some ⟨g, o, none⟩ ∧ ∀ W, Below w.heap.size w W → W.rangeAt g (o + k * 13) [.int .i64 l[k].serial, .string l[k].issuer, .string l[k].subject, .int .i64 l[k].frm, .int .i64 l[k].upto, .string l[k].key, .bool l[k].ca, .int .i64 l[k].pathLen, .int .i64 l[k].usage, .slice p l[k].pol.length q, .slice e l[k].per.length r, .slice d l[k].den.length s, .string l[k].sig] ∧ CtAt W (.agg #[.int .i64 l[k].serial, .string l[k].issuer, .string l[k].subject, .int .i64 l[k].frm, .int .i64 l[k].upto, .string l[k].key, .bool l[k].ca, .int .i64 l[k].pathLen, .int .i64 l[k].usage, .slice p l[k].pol.length q, .slice e l[k].per.length r, .slice d l[k].den.length s, .string l[k].sig]) l[k] := by
  obtain ⟨g, o, u, hax, hg, hP, hs, hc⟩ := h.get hk
  obtain ⟨p, q, e, r, d, s, hu⟩ := CtAt.shape hP
  subst hu
  exact ⟨g, o, p, q, e, r, d, s, hax, fun W hW => ⟨row_range (c := l[k]) (p := .slice p l[k].pol.length q) (e := .slice e l[k].per.length r) (d := .slice d l[k].den.length s) fun i x hx => (hW.cell (p := ⟨g, o + k * 13 + i, none⟩) hg).trans (hc i x hx), CtAt.below hP hW⟩⟩
set_option maxHeartbeats 6400000 in
set_option maxRecDepth 100000 in
theorem specPathText_any (l : List Ct) (v : Value) (w : World) (hl : wtM l ≤ 1048576) (hwd : ∀ c ∈ l, WdC c) (ha : AtS certKd w v l) :
    Calls Try.prog 10 #[v] w fun e w' => e = .returned (.string ⟨(pathT l).toArray⟩) ∧ Below w.heap.size w w' := by
  obtain ⟨ax, cx, hv⟩ := ha.shape
  obtain ⟨len, hlen⟩ : ∃ n, l.length = n := ⟨_, rfl⟩
  rw [hlen] at hv
  subst hv
  have hl20 : len ≤ 1048576 := by unfold wtM at hl; omega
  have HX : Hid (AtS certKd w (.slice ax len cx) l ∧ l.length = len ∧ wtM l ≤ 1048576 ∧ ∀ c ∈ l, WdC c) := ⟨ha, hlen, hl, hwd⟩
  clear ha hlen hl hwd
  go_enter Try.func10, Try.ntmps10
  go_wp2_with fail
  go_loopw [3, 4] (fun sv iv wr => ∃ k : Nat, k ≤ len ∧ sv = .string ⟨(pathT (l.take k)).toArray⟩ ∧ iv = .int .i64 k ∧ Hid (Below w.heap.size w wr)) (fun _ iv _ => len - (intOf iv).toNat)
  case atStart => exact ⟨0, Nat.zero_le _, rfl, rfl, Below.refl _ _⟩
  case round =>
    obtain ⟨k, hk, rfl, rfl, HB⟩ := hrel
    by_cases hkn : k < len
    · have hkl : k < l.length := by rw [HX.out.2.1]; exact hkn
      obtain ⟨g, o, p, q, e, r, d, s, hax, hat⟩ := at_letter HX.out.1 hkl
      subst hax
      have hki : (k : Int) < (len : Int) := by omega
      have hk0 : (0 : Int) ≤ (k : Int) := by omega
      have HT : Hid (pathT (l.take (k + 1)) = pathT (l.take k) ++ (ctxt l[k]).getD [] ∧ wtC l[k] ≤ 1048576 ∧ WdC l[k]) := ⟨pathT_take hkl, wdM HX.out.2.2.1 hkl, HX.out.2.2.2 _ (List.getElem_mem hkl)⟩
      obtain ⟨PT, hPT⟩ : ∃ q, pathT (l.take k) = q := ⟨_, rfl⟩
      obtain ⟨c, hc⟩ : ∃ c, l[k] = c := ⟨_, rfl⟩
      rw [hc] at hat HT
      rw [hPT] at HT ⊢
      obtain ⟨CX, hCX⟩ : ∃ q, ctxt c = q := ⟨_, rfl⟩
      obtain ⟨hrg, hca⟩ := hat wr HB.out
      have HR := specCertText_any c _ wr HT.out.2.1 HT.out.2.2 hca
      rw [hCX] at HR HT
      have hs1 : ((⟨PT.toArray⟩ : ByteArray)).size ≤ 5000000000 := by show PT.length ≤ _; rw [← hPT]; have h1 := pathT_len (l.take k); have h2 := List.length_take_le k l; omega
      have hs2 : ((⟨(CX.getD []).toArray⟩ : ByteArray)).size ≤ 4000 := by show (CX.getD []).length ≤ _; rw [← hCX]; exact ctxt_len c
      clear hat hca hPT hCX hc
      have HE : Hid ((⟨PT.toArray⟩ : ByteArray) ++ (⟨(CX.getD []).toArray⟩ : ByteArray) = ⟨(pathT (l.take (k + 1))).toArray⟩) := by
        show _ = _
        rw [HT.out.1]
        apply ByteArray.ext
        rw [ByteArray.data_append]
        simp
      obtain ⟨SP, hSP⟩ : ∃ q : ByteArray, (⟨PT.toArray⟩ : ByteArray) = q := ⟨_, rfl⟩
      obtain ⟨ST, hST⟩ : ∃ q : ByteArray, (⟨(CX.getD []).toArray⟩ : ByteArray) = q := ⟨_, rfl⟩
      obtain ⟨BX, hBX⟩ : ∃ q, CX.isSome = q := ⟨_, rfl⟩
      rw [hSP] at hs1 HE ⊢
      rw [hST] at hs2 HE
      rw [hST, hBX] at HR
      clear hSP hST hBX HT
      go_wp2_with (refine wpList_load_mid rfl 43 _ rfl g (o + k * 13) rfl _ _ hrg Try.underlying43 rfl (by kernel_rfl) ?_)
      refine HR.mono ?_
      rintro e' w3 ⟨rfl, hb3⟩
      have HB3 : Hid (Below w.heap.size w w3) := HB.out.trans (hb3.mono HB.out.size)
      clear hb3 HB HR hrg
      go_wp2_with fail
      go_roundw
      case rel => exact ⟨k + 1, by omega, by rw [HE.out], by go_num, HB3.out⟩
      case measure => simp [intOf]; omega
    · have hkl : k = len := by omega
      subst hkl
      go_wp2
      go_ret
      exact ⟨by rw [← HX.out.2.1, List.take_length]; rfl, HB.out⟩
theorem builder_new0 (w : World) : Lib.IsBuilder 48 5 w.heap.size w.heap.size [] (w.alloc (.cells #[.pointer none, .slice none 0 0] 48)) := by
  refine .inl ⟨Nat.le_refl _, .slice none 0 0, heap_alloc_last _ _, ⟨rfl, .inl ⟨rfl, rfl⟩⟩, ?_⟩
  simp [Value.ownBlock]
set_option maxHeartbeats 6400000 in
set_option maxRecDepth 100000 in
theorem implPathText_any (l : List Ct) (v : Value) (w : World) (hl : wtM l ≤ 1048576) (hwd : ∀ c ∈ l, WdC c) (ha : AtS certKd w v l) :
    Calls Try.prog 12 #[v] w fun e w' => e = .returned (.string ⟨(pathT l).toArray⟩) ∧ Below w.heap.size w w' := by
  obtain ⟨ax, cx, hv⟩ := ha.shape
  obtain ⟨len, hlen⟩ : ∃ n, l.length = n := ⟨_, rfl⟩
  rw [hlen] at hv
  subst hv
  have hl20 : len ≤ 1048576 := by unfold wtM at hl; omega
  have HX : Hid (AtS certKd w (.slice ax len cx) l ∧ l.length = len ∧ wtM l ≤ 1048576 ∧ ∀ c ∈ l, WdC c) := ⟨ha, hlen, hl, hwd⟩
  clear ha hlen hl hwd
  go_enter Try.func12, Try.ntmps12
  go_wp2_with fail
  go_loopw [11] (fun iv wr => ∃ k : Nat, k ≤ len ∧ iv = .int .i64 k ∧ Hid (Lib.IsBuilder 48 5 w.heap.size w.heap.size (Lib.byteCells (pathT (l.take k))) wr ∧ Below w.heap.size w wr)) (fun iv _ => len - (intOf iv).toNat)
  case atStart => exact ⟨0, Nat.zero_le _, rfl, builder_new0 w, (Below.refl _ _).alloc (Nat.le_refl _) _⟩
  case round =>
    obtain ⟨k, hk, rfl, H⟩ := hrel
    by_cases hkn : k < len
    · have hkl : k < l.length := by rw [HX.out.2.1]; exact hkn
      obtain ⟨g, o, p, q, e, r, d, s, hax, hat⟩ := at_letter HX.out.1 hkl
      subst hax
      have hki : (k : Int) < (len : Int) := by omega
      have hk0 : (0 : Int) ≤ (k : Int) := by omega
      have HT : Hid (pathT (l.take (k + 1)) = pathT (l.take k) ++ (ctxt l[k]).getD [] ∧ wtC l[k] ≤ 1048576 ∧ WdC l[k]) := ⟨pathT_take hkl, wdM HX.out.2.2.1 hkl, HX.out.2.2.2 _ (List.getElem_mem hkl)⟩
      obtain ⟨c, hc⟩ : ∃ c, l[k] = c := ⟨_, rfl⟩
      rw [hc] at hat HT
      clear hc
      obtain ⟨V, hV⟩ : ∃ V, V = (wr.alloc (Obj.cells #[.int .i64 0, .string ⟨#[]⟩, .string ⟨#[]⟩, .int .i64 0, .int .i64 0, .string ⟨#[]⟩, .bool false, .int .i64 0, .int .i64 0, .slice none 0 0, .slice none 0 0, .slice none 0 0, .string ⟨#[]⟩] 43)).setCells wr.heap.size 0 #[.int .i64 c.serial, .string c.issuer, .string c.subject, .int .i64 c.frm, .int .i64 c.upto, .string c.key, .bool c.ca, .int .i64 c.pathLen, .int .i64 c.usage, .slice p c.pol.length q, .slice e c.per.length r, .slice d c.den.length s, .string c.sig].toList := ⟨_, rfl⟩
      have HV : Hid (Below wr.heap.size wr V ∧ Blk V wr.heap.size 43 #[.int .i64 c.serial, .string c.issuer, .string c.subject, .int .i64 c.frm, .int .i64 c.upto, .string c.key, .bool c.ca, .int .i64 c.pathLen, .int .i64 c.usage, .slice p c.pol.length q, .slice e c.per.length r, .slice d c.den.length s, .string c.sig]) := fresh_store hV rfl
      have hrg := (hat wr H.out.2).1
      have hth := (Blk.new wr 43 #[.int .i64 0, .string ⟨#[]⟩, .string ⟨#[]⟩, .int .i64 0, .int .i64 0, .string ⟨#[]⟩, .bool false, .int .i64 0, .int .i64 0, .slice none 0 0, .slice none 0 0, .slice none 0 0, .string ⟨#[]⟩]).there (n := 13) rfl
      go_upto_region 5 with (first | refine wpList_load_mid rfl 43 _ rfl g (o + k * 13) rfl _ _ hrg Try.underlying43 rfl (by kernel_rfl) ?_ | (refine step_storeV rfl 43 _ _ rfl wr.heap.size 0 #[.int .i64 c.serial, .string c.issuer, .string c.subject, .int .i64 c.frm, .int .i64 c.upto, .string c.key, .bool c.ca, .int .i64 c.pathLen, .int .i64 c.usage, .slice p c.pol.length q, .slice e c.per.length r, .slice d c.den.length s, .string c.sig] rfl rfl hth (by kernel_rfl) (by simp [Value.oneCell']) hV ?_; clear hV hth))
      have HR := implCertText_any c _ V HT.out.2.1 HT.out.2.2 (CtAt.below (hat wr H.out.2).2 HV.out.1)
      obtain ⟨CX, hCX⟩ : ∃ q, ctxt c = q := ⟨_, rfl⟩
      have hs2 : ((⟨(CX.getD []).toArray⟩ : ByteArray)).size ≤ 4000 := by show (CX.getD []).length ≤ _; rw [← hCX]; exact ctxt_len c
      rw [hCX] at HR HT
      have HE : Hid (Lib.byteCells (pathT (l.take (k + 1))) = Lib.byteCells (pathT (l.take k)) ++ Lib.strCells (⟨(CX.getD []).toArray⟩ : ByteArray) ∧ (Lib.byteCells (pathT (l.take k))).length ≤ 5000000000) := by
        refine ⟨?_, ?_⟩
        · rw [HT.out.1]
          unfold Lib.byteCells
          rw [List.map_append]
          rfl
        · unfold Lib.byteCells
          rw [List.length_map]
          have h1 := pathT_len (l.take k)
          have h2 := List.length_take_le k l
          omega
      obtain ⟨BS, hBS⟩ : ∃ q, Lib.byteCells (pathT (l.take k)) = q := ⟨_, rfl⟩
      rw [hBS] at HE H
      obtain ⟨ST, hST⟩ : ∃ q : ByteArray, (⟨(CX.getD []).toArray⟩ : ByteArray) = q := ⟨_, rfl⟩
      obtain ⟨BX, hBX⟩ : ∃ q, CX.isSome = q := ⟨_, rfl⟩
      rw [hST] at hs2 HE
      rw [hST, hBX] at HR
      have H2 : Hid (Lib.IsBuilder 48 5 w.heap.size w.heap.size BS V ∧ Below w.heap.size w V) := ⟨builder_stays H.out.1 HV.out.1, H.out.2.trans (HV.out.1.mono H.out.2.size)⟩
      have hrv := HV.out.2.range
      clear hat hrg hBS hST hBX hCX HT H HV
      go_wp2_with (refine wpList_load_mid rfl 43 _ rfl wr.heap.size 0 rfl _ _ hrv Try.underlying43 rfl (by kernel_rfl) ?_)
      refine HR.mono ?_
      rintro e' w3 ⟨rfl, hb3⟩
      have H3 : Hid (Lib.IsBuilder 48 5 w.heap.size w.heap.size BS w3 ∧ Below w.heap.size w w3) := ⟨builder_stays H2.out.1 hb3, H2.out.2.trans (hb3.mono H2.out.2.size)⟩
      clear hb3 H2 HR hrv
      go_wp2_with fail
      refine (writeS w.heap.size w.heap.size BS ST w3 H3.out.1 (by have := HE.out.2; omega) H3.out.2.size).mono ?_
      rintro e' w4 ⟨rfl, hw4, hb4⟩
      have H4 : Hid (Lib.IsBuilder 48 5 w.heap.size w.heap.size (Lib.byteCells (pathT (l.take (k + 1)))) w4 ∧ Below w.heap.size w w4) := ⟨.inr (by rw [HE.out.1]; exact hw4), H3.out.2.trans hb4⟩
      clear hw4 hb4 H3 HE
      go_wp2_with fail
      go_roundw
      case rel => exact ⟨k + 1, by omega, by go_num, H4.out⟩
      case measure => simp [intOf]; omega
    · have hkl : k = len := by omega
      subst hkl
      go_wp2_with (go_at_call 19; refine (Try.Builder_String_any w.heap.size w.heap.size _ _ H.out.1 H.out.2.size).mono ?_; rintro e w2 ⟨rfl, hb2⟩)
      go_ret
      exact ⟨by rw [← HX.out.2.1, List.take_length]; rfl, H.out.2.trans hb2⟩
end Go.Proofs.Ytplblechcnbieaa

/-
  The laws' toWay, szWay, eqWay; SameWay of both.
-/
namespace Go.Proofs.Ytplblechcnbieaa
open Go.RowKit
set_option linter.unusedVariables false

set_option maxHeartbeats 6400000 in
set_option maxRecDepth 100000 in
theorem toWay_any (y : Wy) (v : Value) (B : Nat) (w : World) (hl : wtM y.path ≤ 1048576) (hB : B ≤ w.heap.size) (ha : ArgY B w v y) :
    Calls Try.prog 6 #[v] w fun e w' => ∃ u, e = .returned u ∧ WyAt w' u y ∧ Below w.heap.size w w' := by
  obtain ⟨pa, pc, rfl, h1⟩ := ha
  obtain ⟨z, l⟩ := y
  obtain ⟨len, hlen⟩ : ∃ n, l.length = n := ⟨_, rfl⟩
  change ArgM B w (.slice pa l.length pc) l at h1
  change Calls _ _ #[.agg #[.int .i64 z, .slice pa l.length pc]] _ _
  rw [hlen] at h1 ⊢
  have HA : Hid (ArgM B w (.slice pa len pc) l ∧ wtM l ≤ 1048576 ∧ l.length = len) := ⟨h1, hl, hlen⟩
  clear h1 hl hlen
  go_enter Try.func6, Try.ntmps6
  go_wp2_with fail
  obtain ⟨W3, hW3⟩ : ∃ W, W = ((w.alloc (Obj.cells #[.int .i64 z, .slice pa len pc] 24)).alloc (Obj.cells #[.int .i64 0, .slice none 0 0] 29)).alloc (Obj.cells #[.int .i64 z, .slice none 0 0] 29) := ⟨_, rfl⟩
  change Calls _ _ _ (((w.alloc (Obj.cells #[.int .i64 z, .slice pa len pc] 24)).alloc (Obj.cells #[.int .i64 0, .slice none 0 0] 29)).alloc (Obj.cells #[.int .i64 z, .slice none 0 0] 29)) _
  rw [← hW3]
  have e0 : (w.alloc (Obj.cells #[.int .i64 z, .slice pa len pc] 24)).heap.size = w.heap.size + 1 := Array.size_push _
  have e1 : ((w.alloc (Obj.cells #[.int .i64 z, .slice pa len pc] 24)).alloc (Obj.cells #[.int .i64 0, .slice none 0 0] 29)).heap.size = w.heap.size + 1 + 1 := by rw [size_alloc, e0]
  have G0 : Hid ((Blk W3 (w.heap.size + 1) 29 #[.int .i64 0, .slice none 0 0] ∧ Blk W3 (w.heap.size + 1 + 1) 29 #[.int .i64 z, .slice none 0 0] ∧ Below w.heap.size w W3) ∧ w.heap.size + 1 + 1 + 1 ≤ W3.heap.size) := by
    rw [hW3]
    refine ⟨⟨?_, ?_, (((Below.refl _ _).alloc (Nat.le_refl _) _).alloc (by rw [e0]; omega) _).alloc (by rw [e1]; omega) _⟩, by rw [size_alloc, e1]; omega⟩
    · have h := (Blk.new (w.alloc (Obj.cells #[.int .i64 z, .slice pa len pc] 24)) 29 #[.int .i64 0, .slice none 0 0]).alloc (Obj.cells #[.int .i64 z, .slice none 0 0] 29)
      rw [e0] at h
      exact h
    · have h := Blk.new ((w.alloc (Obj.cells #[.int .i64 z, .slice pa len pc] 24)).alloc (Obj.cells #[.int .i64 0, .slice none 0 0] 29)) 29 #[.int .i64 z, .slice none 0 0]
      rw [e1] at h
      exact h
  clear hW3 e0 e1
  have wd2 : w.heap.size + 1 ≠ w.heap.size + 1 + 1 := by omega
  refine (toCertS_any _ l B W3 HA.out.2.1 (Nat.le_trans hB G0.out.1.2.2.size) (HA.out.1.below (G0.out.1.2.2.mono hB) (Nat.le_refl _))).mono ?_
  rintro r u2 ⟨p, fp, rfl, op, hb⟩
  have F2 : Hid ((Blk u2 (w.heap.size + 1) 29 #[.int .i64 0, .slice none 0 0] ∧ Blk u2 (w.heap.size + 1 + 1) 29 #[.int .i64 z, .slice none 0 0] ∧ Below w.heap.size w u2) ∧ w.heap.size + 1 + 1 + 1 ≤ u2.heap.size ∧ OwnS certKd u2 (w.heap.size + 1 + 1 + 1) p l fp) := by
    have hz := G0.out.2
    exact ⟨⟨G0.out.1.1.below hb (by omega), G0.out.1.2.1.below hb (by omega), G0.out.1.2.2.trans (hb.mono G0.out.1.2.2.size)⟩, Nat.le_trans hz hb.size, op.base hz⟩
  clear op hb G0
  have fr := fun j => F2.out.1.2.1.free j
  have f1 := fun j => F2.out.1.1.free j
  obtain ⟨qp, mp, hsp⟩ := F2.out.2.2.at.shape
  rw [HA.out.2.2] at hsp
  subst hsp
  have c10 : u2.cell? ⟨w.heap.size + 1, 0, none⟩ = some (.int .i64 0) := F2.out.1.1.cell 0
  have c20 : u2.cell? ⟨w.heap.size + 1 + 1, 0, none⟩ = some (.int .i64 z) := F2.out.1.2.1.cell 0
  have c11 : u2.cell? ⟨w.heap.size + 1, 1, none⟩ = some (.slice none 0 0) := F2.out.1.1.cell 1
  have c21 : u2.cell? ⟨w.heap.size + 1 + 1, 1, none⟩ = some (.slice none 0 0) := F2.out.1.2.1.cell 1
  go_wp2_with fail
  refine bodyPost_ret (v := .agg #[.int .i64 z, .slice qp len mp]) (by simp [results, Try.results6, go_sem, c10, c11]) rfl ⟨_, rfl, ⟨_, rfl, ((F2.out.2.2.same ?far)).at⟩, ?bel⟩
  case far =>
    intro b hb
    have := F2.out.2.2.lt b hb
    iterate 3 rw [heap_setCell_other _ _ _ _ (by first | (show b ≠ w.heap.size + 1; omega) | (show b ≠ w.heap.size + 1 + 1; omega))]
  case bel =>
    iterate 3 refine Below.setCell ?_ (by first | (show w.heap.size ≤ w.heap.size + 1; omega) | (show w.heap.size ≤ w.heap.size + 1 + 1; omega)) _
    exact F2.out.1.2.2
set_option maxHeartbeats 6400000 in
set_option maxRecDepth 100000 in
theorem szWay_any (y : Wy) (v : Value) (left : Int) (w : World) (hwd : WdY y) (h0 : 0 ≤ left) (hl : left ≤ 1048576) (ha : ArgY w.heap.size w v y) :
    Calls Try.prog 4 #[v, .int .i64 left] w fun e w' => e = .returned (.int .i64 (if (wtM y.path : Int) ≤ left then left - (wtM y.path : Int) else -1)) ∧ Below w.heap.size w w' := by
  obtain ⟨pa, pc, rfl, h1⟩ := ha
  obtain ⟨wd, hpl⟩ := hwd
  obtain ⟨r2, hr2⟩ : ∃ r : Int, r = if (wtM y.path : Int) ≤ left then left - (wtM y.path : Int) else -1 := ⟨_, rfl⟩
  have Z2 : Hid (∀ W, Below w.heap.size w W → Calls Try.prog 9 #[.slice pa y.path.length pc, .int .i64 left] W fun e w' => e = .returned (.int .i64 r2) ∧ Below W.heap.size W w') := fun W hb => by rw [hr2]; exact szCertS_any _ y.path left W hpl wd h0 hl (h1.below hb hb.size)
  rw [← hr2]
  clear h1 wd
  by_cases g2 : r2 < 0
  · have e1 : r2 = -1 := by split at hr2 <;> omega
    clear hr2 g2
    subst e1
    go_enter Try.func4, Try.ntmps4
    go_wp2_with fail
    obtain ⟨V, hV⟩ : ∃ V, V = w.alloc (Obj.cells #[.int .i64 y.anchor, .slice pa y.path.length pc] 24) := ⟨_, rfl⟩
    rw [← hV]
    have G : Hid (Below w.heap.size w V) := by rw [hV]; exact (Below.refl _ _).alloc (Nat.le_refl _) _
    clear hV
    refine (Z2.out V G.out).mono ?_
    rintro e V2 ⟨rfl, hb⟩
    have G2 : Hid (Below w.heap.size w V2) := G.out.trans (hb.mono G.out.size)
    clear hb G
    go_wp2_with fail
    go_ret
    exact ⟨rfl, G2.out⟩
  · clear hr2
    go_enter Try.func4, Try.ntmps4
    go_wp2_with fail
    obtain ⟨V, hV⟩ : ∃ V, V = w.alloc (Obj.cells #[.int .i64 y.anchor, .slice pa y.path.length pc] 24) := ⟨_, rfl⟩
    rw [← hV]
    have G : Hid (Below w.heap.size w V) := by rw [hV]; exact (Below.refl _ _).alloc (Nat.le_refl _) _
    clear hV
    refine (Z2.out V G.out).mono ?_
    rintro e V2 ⟨rfl, hb⟩
    have G2 : Hid (Below w.heap.size w V2) := G.out.trans (hb.mono G.out.size)
    clear hb G
    go_wp2_with fail
    go_ret
    exact ⟨rfl, G2.out⟩
set_option maxHeartbeats 6400000 in
set_option maxRecDepth 100000 in
theorem eqWay_same (y : Wy) (a b : Value) (w : World) (hl : wtM y.path ≤ 1000000000) (ha : WyAt w a y) (hb : WyAt w b y) :
    Calls Try.prog 8 #[a, b] w fun e w' => e = .returned (.bool true) ∧ Below w.heap.size w w' := by
  obtain ⟨pa, n, pc, hn, rfl⟩ := ha.shape
  obtain ⟨pb, n', qc, hn', rfl⟩ := hb.shape
  obtain rfl : n' = n := by rw [hn, hn']
  have HQ : Hid (∀ W, Below w.heap.size w W → Calls Try.prog 13 #[.slice pa n' pc, .slice pb n' qc] W (fun e w' => e = .returned (.bool true) ∧ Below W.heap.size W w')) := fun W h => eqCertS_same y.path _ _ W hl (ha.row.below h) (hb.row.below h)
  clear ha hb hn hn' hl
  obtain ⟨z, hz⟩ : ∃ z, y.anchor = z := ⟨_, rfl⟩
  rw [hz]
  clear hz
  go_enter Try.func8, Try.ntmps8
  go_wp2_with fail
  obtain ⟨V, hV⟩ : ∃ V, V = (w.alloc (Obj.cells #[.int .i64 z, .slice pa n' pc] 29)).alloc (Obj.cells #[.int .i64 z, .slice pb n' qc] 29) := ⟨_, rfl⟩
  rw [← hV]
  have G : Hid (Below w.heap.size w V) := by rw [hV]; exact ((Below.refl _ _).alloc (Nat.le_refl _) _).alloc (by rw [size_alloc]; omega) _
  clear hV
  refine (HQ.out V G.out).mono ?_
  rintro e V2 ⟨rfl, hb⟩
  have G2 : Hid (Below w.heap.size w V2) := G.out.trans (hb.mono G.out.size)
  clear hb G
  go_wp2_with fail
  go_ret
  exact ⟨rfl, G2.out⟩
/-- Whether two ways are one. -/
def swB (x y : Wy) : Bool := decide (x.anchor = y.anchor) && ((⟨(pathT x.path).toArray⟩ : ByteArray).toList == (⟨(pathT y.path).toArray⟩ : ByteArray).toList)
/-- Two structs, each in a variable's block. -/
def K2 (w W : World) (t : TypeId) (a b : Array Value) : Prop := Below w.heap.size w W ∧ Blk W w.heap.size t a ∧ Blk W (w.heap.size + 1) t b
theorem K2.below {w W W' : World} {t : TypeId} {a b : Array Value} (h : K2 w W t a b) (hb : Below W.heap.size W W') : K2 w W' t a b := ⟨h.1.trans (hb.mono h.1.size), h.2.1.below hb h.2.1.lt, h.2.2.below hb h.2.2.lt⟩
set_option maxHeartbeats 6400000 in
set_option maxRecDepth 100000 in
theorem specSameWay_any (x y : Wy) (u v : Value) (w : World) (hlx : wtM x.path ≤ 1048576) (hly : wtM y.path ≤ 1048576) (wdx : ∀ c ∈ x.path, WdC c) (wdy : ∀ c ∈ y.path, WdC c) (hx : WyAt w u x) (hy : WyAt w v y) :
    Calls Try.prog 5 #[u, v] w fun e w' => e = .returned (.bool (swB x y)) ∧ Below w.heap.size w w' := by
  obtain ⟨pa, n, pc, hn, rfl⟩ := hx.shape
  obtain ⟨pb, m, qc, hm, rfl⟩ := hy.shape
  obtain ⟨S, hS⟩ : ∃ q : ByteArray, (⟨(pathT x.path).toArray⟩ : ByteArray) = q := ⟨_, rfl⟩
  obtain ⟨T, hT⟩ : ∃ q : ByteArray, (⟨(pathT y.path).toArray⟩ : ByteArray) = q := ⟨_, rfl⟩
  have HQ : Hid (∀ W, Below w.heap.size w W → Calls Try.prog 10 #[.slice pa n pc] W (fun e w' => e = .returned (.string S) ∧ Below W.heap.size W w')) := fun W h => by rw [← hS]; exact specPathText_any x.path _ W hlx wdx (hx.row.below h)
  have HQ2 : Hid (∀ W, Below w.heap.size w W → Calls Try.prog 10 #[.slice pb m qc] W (fun e w' => e = .returned (.string T) ∧ Below W.heap.size W w')) := fun W h => by rw [← hT]; exact specPathText_any y.path _ W hly wdy (hy.row.below h)
  obtain ⟨R, hR⟩ : ∃ b, swB x y = b := ⟨_, rfl⟩
  have HR0 : R = (decide (x.anchor = y.anchor) && (S.toList == T.toList)) := by rw [← hR]; unfold swB; rw [hS, hT]
  rw [hR]
  clear hx hy hlx hly wdx wdy hS hT hR hn hm
  obtain ⟨z1, hz1⟩ : ∃ z, x.anchor = z := ⟨_, rfl⟩
  obtain ⟨z2, hz2⟩ : ∃ z, y.anchor = z := ⟨_, rfl⟩
  rw [hz1, hz2] at HR0 ⊢
  clear hz1 hz2
  have HK0 : Hid (K2 w ((w.alloc (Obj.cells #[.int .i64 z1, .slice pa n pc] 29)).alloc (Obj.cells #[.int .i64 z2, .slice pb m qc] 29)).drew 29 #[.int .i64 z1, .slice pa n pc] #[.int .i64 z2, .slice pb m qc]) := by
    have e0 : (w.alloc (Obj.cells #[.int .i64 z1, .slice pa n pc] 29)).heap.size = w.heap.size + 1 := Array.size_push _
    have h := Blk.new (w.alloc (Obj.cells #[.int .i64 z1, .slice pa n pc] 29)) 29 #[.int .i64 z2, .slice pb m qc]
    rw [e0] at h
    exact (K2.below ⟨((Below.refl _ _).alloc (Nat.le_refl _) _).alloc (by rw [e0]; omega) _, (Blk.new w _ _).alloc _, h⟩ (Below.refl _ _).drew)
  by_cases hz : z1 = z2
  · have HR : Hid ((S.toList == T.toList) = R) := by show _ = R; rw [HR0, decide_eq_true hz]; rfl
    clear HR0
    subst hz
    go_enter Try.func5, Try.ntmps5
    go_upto_region 1 with fail
    refine wp_region_held_drew (S := fun W => K2 w W 29 #[.int .i64 z1, .slice pa n pc] #[.int .i64 z1, .slice pb m qc]) (by kernel_rfl) HK0.out (fun hHeld => ?_)
    clear HK0
    refine wpAnyH_take (i := 0) (oi := ⟨some 5, _, _, _, _, _⟩) (v := ?_) rfl (by kernel_rfl) (by kernel_rfl) (by kernel_rfl) (fun _ _ _ h => h) (Or.inl ⟨by rfl, ?_⟩) hHeld ?_
    rotate_left
    · intro W hSw
      go_simp
      try with_reducible rfl
    try simp only [Act.put, List.setIfInBounds_toArray, List.set_cons_zero, List.set_cons_succ]
    refine wpAnyH_take (i := 1) (oi := ⟨some 6, _, _, _, _, _⟩) (v := ?_) rfl (by kernel_rfl) (by kernel_rfl) (by kernel_rfl) (fun _ _ _ h => h) (Or.inl ⟨by rfl, ?_⟩) hHeld ?_
    rotate_left
    · intro W hSw
      have l0 : W.cell? ⟨w.heap.size, 0, none⟩ = some (.int .i64 z1) := hSw.2.1.cell 0
      have l1 : W.cell? ⟨w.heap.size, 1, none⟩ = some (.slice pa n pc) := hSw.2.1.cell 1
      have m0 : W.cell? ⟨w.heap.size + 1, 0, none⟩ = some (.int .i64 z1) := hSw.2.2.cell 0
      have m1 : W.cell? ⟨w.heap.size + 1, 1, none⟩ = some (.slice pb m qc) := hSw.2.2.cell 1
      go_simp
      try with_reducible rfl
    try simp only [Act.put, List.setIfInBounds_toArray, List.set_cons_zero, List.set_cons_succ]
    refine wpAnyH_take (i := 2) (oi := ⟨some 7, _, _, _, _, _⟩) (v := ?_) rfl (by kernel_rfl) (by kernel_rfl) (by kernel_rfl) (fun _ _ _ h => h) (Or.inl ⟨by rfl, ?_⟩) hHeld ?_
    rotate_left
    · intro W hSw
      go_simp
      try with_reducible rfl
    try simp only [Act.put, List.setIfInBounds_toArray, List.set_cons_zero, List.set_cons_succ]
    refine wpAnyH_take (i := 3) (oi := ⟨some 8, _, _, _, _, _⟩) (v := ?_) rfl (by kernel_rfl) (by kernel_rfl) (by kernel_rfl) (fun _ _ _ h => h) (Or.inl ⟨by rfl, ?_⟩) hHeld ?_
    rotate_left
    · intro W hSw
      have l0 : W.cell? ⟨w.heap.size, 0, none⟩ = some (.int .i64 z1) := hSw.2.1.cell 0
      have l1 : W.cell? ⟨w.heap.size, 1, none⟩ = some (.slice pa n pc) := hSw.2.1.cell 1
      have m0 : W.cell? ⟨w.heap.size + 1, 0, none⟩ = some (.int .i64 z1) := hSw.2.2.cell 0
      have m1 : W.cell? ⟨w.heap.size + 1, 1, none⟩ = some (.slice pb m qc) := hSw.2.2.cell 1
      go_simp
      try with_reducible rfl
    try simp only [Act.put, List.setIfInBounds_toArray, List.set_cons_zero, List.set_cons_succ]
    refine wpAnyH_take (i := 4) (oi := ⟨some 9, _, _, _, _, _⟩) (v := ?_) rfl (by kernel_rfl) (by kernel_rfl) (by kernel_rfl) (fun _ _ _ h => h) (Or.inl ⟨by rfl, ?_⟩) hHeld ?_
    rotate_left
    · intro W hSw
      go_simp
      try with_reducible rfl
    try simp only [Act.put, List.setIfInBounds_toArray, List.set_cons_zero, List.set_cons_succ]
    refine wpAnyH_take (i := 5) (oi := ⟨some 10, _, _, _, _, _⟩) (v := ?_) rfl (by kernel_rfl) (by kernel_rfl) (by kernel_rfl) (fun _ _ _ h => h) (Or.inl ⟨by rfl, ?_⟩) hHeld ?_
    rotate_left
    · intro W hSw
      go_simp
      try with_reducible rfl
    try simp only [Act.put, List.setIfInBounds_toArray, List.set_cons_zero, List.set_cons_succ]
    refine wpAnyH_take (i := 6) (oi := ⟨some 11, _, _, _, _, _⟩) (v := ?_) rfl (by kernel_rfl) (by kernel_rfl) (by kernel_rfl) (fun _ _ _ h => h) (Or.inl ⟨by rfl, ?_⟩) hHeld ?_
    rotate_left
    · intro W hSw
      go_simp
      try with_reducible rfl
    try simp only [Act.put, List.setIfInBounds_toArray, List.set_cons_zero, List.set_cons_succ]
    refine wpAnyH_take (i := 7) (oi := ⟨some 12, _, _, _, _, _⟩) (v := ?_) rfl (by kernel_rfl) (by kernel_rfl) (by kernel_rfl) (fun _ _ _ h => h) (Or.inl ⟨by rfl, ?_⟩) hHeld ?_
    rotate_left
    · intro W hSw
      have l0 : W.cell? ⟨w.heap.size, 0, none⟩ = some (.int .i64 z1) := hSw.2.1.cell 0
      have l1 : W.cell? ⟨w.heap.size, 1, none⟩ = some (.slice pa n pc) := hSw.2.1.cell 1
      have m0 : W.cell? ⟨w.heap.size + 1, 0, none⟩ = some (.int .i64 z1) := hSw.2.2.cell 0
      have m1 : W.cell? ⟨w.heap.size + 1, 1, none⟩ = some (.slice pb m qc) := hSw.2.2.cell 1
      go_simp
      try with_reducible rfl
    try simp only [Act.put, List.setIfInBounds_toArray, List.set_cons_zero, List.set_cons_succ]
    refine wpAnyH_take (i := 9) (oi := ⟨some 14, _, _, _, _, _⟩) (v := ?_) rfl (by kernel_rfl) (by kernel_rfl) (by kernel_rfl) (fun _ _ _ h => h) (Or.inl ⟨by rfl, ?_⟩) hHeld ?_
    rotate_left
    · intro W hSw
      go_simp
      try with_reducible rfl
    try simp only [Act.put, List.setIfInBounds_toArray, List.set_cons_zero, List.set_cons_succ]
    refine wpAnyH_take (i := 10) (oi := ⟨some 15, _, _, _, _, _⟩) (v := ?_) rfl (by kernel_rfl) (by kernel_rfl) (by kernel_rfl) (fun _ _ _ h => h) (Or.inl ⟨by rfl, ?_⟩) hHeld ?_
    rotate_left
    · intro W hSw
      have l0 : W.cell? ⟨w.heap.size, 0, none⟩ = some (.int .i64 z1) := hSw.2.1.cell 0
      have l1 : W.cell? ⟨w.heap.size, 1, none⟩ = some (.slice pa n pc) := hSw.2.1.cell 1
      have m0 : W.cell? ⟨w.heap.size + 1, 0, none⟩ = some (.int .i64 z1) := hSw.2.2.cell 0
      have m1 : W.cell? ⟨w.heap.size + 1, 1, none⟩ = some (.slice pb m qc) := hSw.2.2.cell 1
      go_simp
      try with_reducible rfl
    try simp only [Act.put, List.setIfInBounds_toArray, List.set_cons_zero, List.set_cons_succ]
    refine wpAnyH_ready (rs := [8]) (by kernel_rfl) (by simp) ?_
    refine AllReadyH.cons (o := ⟨some 13, _, _, _, _, _⟩) rfl (fun K hK => ?_) AllReadyH.nil
    go_simp
    refine (HQ.out _ hHeld.1).mono ?_
    rintro e w3 ⟨rfl, hb⟩
    have Hw3 : Hid (K2 w w3 29 #[.int .i64 z1, .slice pa n pc] #[.int .i64 z1, .slice pb m qc]) := hHeld.below hb
    clear hb hHeld
    refine hK.out _ _ (Hw3.out) (fun hHeld => ?_)
    clear hK K
    try simp only [Act.put, List.setIfInBounds_toArray, List.set_cons_zero, List.set_cons_succ]
    clear Hw3
    refine wpAnyH_ready (rs := [11]) (by kernel_rfl) (by simp) ?_
    refine AllReadyH.cons (o := ⟨some 16, _, _, _, _, _⟩) rfl (fun K hK => ?_) AllReadyH.nil
    go_simp
    refine (HQ2.out _ hHeld.1).mono ?_
    rintro e w4 ⟨rfl, hb⟩
    have Hw4 : Hid (K2 w w4 29 #[.int .i64 z1, .slice pa n pc] #[.int .i64 z1, .slice pb m qc]) := hHeld.below hb
    clear hb hHeld
    refine hK.out _ _ (Hw4.out) (fun hHeld => ?_)
    clear hK K
    try simp only [Act.put, List.setIfInBounds_toArray, List.set_cons_zero, List.set_cons_succ]
    clear Hw4
    refine wpAnyH_take (i := 12) (oi := ⟨some 17, _, _, _, _, _⟩) (v := ?_) rfl (by kernel_rfl) (by kernel_rfl) (by kernel_rfl) (fun _ _ _ h => h) (Or.inl ⟨by rfl, ?_⟩) hHeld ?_
    rotate_left
    · intro W hSw
      go_simp
      try with_reducible rfl
    try simp only [Act.put, List.setIfInBounds_toArray, List.set_cons_zero, List.set_cons_succ]
    refine wpAnyH_take (i := 13) (oi := ⟨some 18, _, _, _, _, _⟩) (v := ?_) rfl (by kernel_rfl) (by kernel_rfl) (by kernel_rfl) (fun _ _ _ h => h) (Or.inl ⟨by rfl, ?_⟩) hHeld ?_
    rotate_left
    · intro W hSw
      go_simp
      try with_reducible rfl
    try simp only [Act.put, List.setIfInBounds_toArray, List.set_cons_zero, List.set_cons_succ]
    refine wpAnyH_take (i := 14) (oi := ⟨some 4, _, _, _, _, _⟩) (v := ?_) rfl (by kernel_rfl) (by kernel_rfl) (by kernel_rfl) (fun _ _ _ h => h) (Or.inl ⟨by rfl, ?_⟩) hHeld ?_
    rotate_left
    · intro W hSw
      go_simp
      try with_reducible rfl
    try simp only [Act.put, List.setIfInBounds_toArray, List.set_cons_zero, List.set_cons_succ]
    refine wpAnyH_done (by kernel_rfl) ?_ _
    have HE : Hid (Below w.heap.size w _) := hHeld.1
    clear hHeld
    go_wp2_with fail
    go_ret
    exact ⟨HR.out ▸ rfl, HE.out⟩
  · have hb : (z1 == z2) = false := beq_eq_false_iff_ne.2 hz
    have HR : Hid (false = R) := by show _ = R; rw [HR0, decide_eq_false hz]; rfl
    clear HR0
    go_enter Try.func5, Try.ntmps5
    go_upto_region 1 with fail
    refine wp_region_held_drew (S := fun W => K2 w W 29 #[.int .i64 z1, .slice pa n pc] #[.int .i64 z2, .slice pb m qc]) (by kernel_rfl) HK0.out (fun hHeld => ?_)
    clear HK0
    refine wpAnyH_take (i := 0) (oi := ⟨some 5, _, _, _, _, _⟩) (v := ?_) rfl (by kernel_rfl) (by kernel_rfl) (by kernel_rfl) (fun _ _ _ h => h) (Or.inl ⟨by rfl, ?_⟩) hHeld ?_
    rotate_left
    · intro W hSw
      go_simp
      try with_reducible rfl
    try simp only [Act.put, List.setIfInBounds_toArray, List.set_cons_zero, List.set_cons_succ]
    refine wpAnyH_take (i := 1) (oi := ⟨some 6, _, _, _, _, _⟩) (v := ?_) rfl (by kernel_rfl) (by kernel_rfl) (by kernel_rfl) (fun _ _ _ h => h) (Or.inl ⟨by rfl, ?_⟩) hHeld ?_
    rotate_left
    · intro W hSw
      have l0 : W.cell? ⟨w.heap.size, 0, none⟩ = some (.int .i64 z1) := hSw.2.1.cell 0
      have l1 : W.cell? ⟨w.heap.size, 1, none⟩ = some (.slice pa n pc) := hSw.2.1.cell 1
      have m0 : W.cell? ⟨w.heap.size + 1, 0, none⟩ = some (.int .i64 z2) := hSw.2.2.cell 0
      have m1 : W.cell? ⟨w.heap.size + 1, 1, none⟩ = some (.slice pb m qc) := hSw.2.2.cell 1
      go_simp
      try with_reducible rfl
    try simp only [Act.put, List.setIfInBounds_toArray, List.set_cons_zero, List.set_cons_succ]
    refine wpAnyH_take (i := 2) (oi := ⟨some 7, _, _, _, _, _⟩) (v := ?_) rfl (by kernel_rfl) (by kernel_rfl) (by kernel_rfl) (fun _ _ _ h => h) (Or.inl ⟨by rfl, ?_⟩) hHeld ?_
    rotate_left
    · intro W hSw
      go_simp
      try with_reducible rfl
    try simp only [Act.put, List.setIfInBounds_toArray, List.set_cons_zero, List.set_cons_succ]
    refine wpAnyH_take (i := 3) (oi := ⟨some 8, _, _, _, _, _⟩) (v := ?_) rfl (by kernel_rfl) (by kernel_rfl) (by kernel_rfl) (fun _ _ _ h => h) (Or.inl ⟨by rfl, ?_⟩) hHeld ?_
    rotate_left
    · intro W hSw
      have l0 : W.cell? ⟨w.heap.size, 0, none⟩ = some (.int .i64 z1) := hSw.2.1.cell 0
      have l1 : W.cell? ⟨w.heap.size, 1, none⟩ = some (.slice pa n pc) := hSw.2.1.cell 1
      have m0 : W.cell? ⟨w.heap.size + 1, 0, none⟩ = some (.int .i64 z2) := hSw.2.2.cell 0
      have m1 : W.cell? ⟨w.heap.size + 1, 1, none⟩ = some (.slice pb m qc) := hSw.2.2.cell 1
      go_simp
      try with_reducible rfl
    try simp only [Act.put, List.setIfInBounds_toArray, List.set_cons_zero, List.set_cons_succ]
    refine wpAnyH_take (i := 4) (oi := ⟨some 9, _, _, _, _, _⟩) (v := ?_) rfl (by kernel_rfl) (by kernel_rfl) (by kernel_rfl) (fun _ _ _ h => h) (Or.inl ⟨by rfl, ?_⟩) hHeld ?_
    rotate_left
    · intro W hSw
      go_simp
      try with_reducible rfl
    try simp only [Act.put, List.setIfInBounds_toArray, List.set_cons_zero, List.set_cons_succ]
    refine wpAnyH_take (i := 5) (oi := ⟨some 10, _, _, _, _, _⟩) (v := ?_) rfl (by kernel_rfl) (by kernel_rfl) (by kernel_rfl) (fun _ _ _ h => h) (Or.inl ⟨by rfl, ?_⟩) hHeld ?_
    rotate_left
    · intro W hSw
      go_simp
      try with_reducible rfl
    try simp only [Act.put, List.setIfInBounds_toArray, List.set_cons_zero, List.set_cons_succ]
    refine wpAnyH_take (i := 6) (oi := ⟨some 11, _, _, _, _, _⟩) rfl (by kernel_rfl) (by kernel_rfl) (by kernel_rfl) (fun _ _ _ h => h) (Or.inr ⟨by rfl, rfl⟩) hHeld ?_
    try simp only [Act.put, List.setIfInBounds_toArray, List.set_cons_zero, List.set_cons_succ]
    refine wpAnyH_take (i := 7) (oi := ⟨some 12, _, _, _, _, _⟩) rfl (by kernel_rfl) (by kernel_rfl) (by kernel_rfl) (fun _ _ _ h => h) (Or.inr ⟨by rfl, rfl⟩) hHeld ?_
    try simp only [Act.put, List.setIfInBounds_toArray, List.set_cons_zero, List.set_cons_succ]
    refine wpAnyH_take (i := 8) (oi := ⟨some 13, _, _, _, _, _⟩) rfl (by kernel_rfl) (by kernel_rfl) (by kernel_rfl) (fun _ _ _ h => h) (Or.inr ⟨by rfl, rfl⟩) hHeld ?_
    try simp only [Act.put, List.setIfInBounds_toArray, List.set_cons_zero, List.set_cons_succ]
    refine wpAnyH_take (i := 9) (oi := ⟨some 14, _, _, _, _, _⟩) rfl (by kernel_rfl) (by kernel_rfl) (by kernel_rfl) (fun _ _ _ h => h) (Or.inr ⟨by rfl, rfl⟩) hHeld ?_
    try simp only [Act.put, List.setIfInBounds_toArray, List.set_cons_zero, List.set_cons_succ]
    refine wpAnyH_take (i := 10) (oi := ⟨some 15, _, _, _, _, _⟩) rfl (by kernel_rfl) (by kernel_rfl) (by kernel_rfl) (fun _ _ _ h => h) (Or.inr ⟨by rfl, rfl⟩) hHeld ?_
    try simp only [Act.put, List.setIfInBounds_toArray, List.set_cons_zero, List.set_cons_succ]
    refine wpAnyH_take (i := 11) (oi := ⟨some 16, _, _, _, _, _⟩) rfl (by kernel_rfl) (by kernel_rfl) (by kernel_rfl) (fun _ _ _ h => h) (Or.inr ⟨by rfl, rfl⟩) hHeld ?_
    try simp only [Act.put, List.setIfInBounds_toArray, List.set_cons_zero, List.set_cons_succ]
    refine wpAnyH_take (i := 12) (oi := ⟨some 17, _, _, _, _, _⟩) rfl (by kernel_rfl) (by kernel_rfl) (by kernel_rfl) (fun _ _ _ h => h) (Or.inr ⟨by rfl, rfl⟩) hHeld ?_
    try simp only [Act.put, List.setIfInBounds_toArray, List.set_cons_zero, List.set_cons_succ]
    refine wpAnyH_take (i := 13) (oi := ⟨some 18, _, _, _, _, _⟩) (v := ?_) rfl (by kernel_rfl) (by kernel_rfl) (by kernel_rfl) (fun _ _ _ h => h) (Or.inl ⟨by rfl, ?_⟩) hHeld ?_
    rotate_left
    · intro W hSw
      go_simp
      try with_reducible rfl
    try simp only [Act.put, List.setIfInBounds_toArray, List.set_cons_zero, List.set_cons_succ]
    refine wpAnyH_take (i := 14) (oi := ⟨some 4, _, _, _, _, _⟩) (v := ?_) rfl (by kernel_rfl) (by kernel_rfl) (by kernel_rfl) (fun _ _ _ h => h) (Or.inl ⟨by rfl, ?_⟩) hHeld ?_
    rotate_left
    · intro W hSw
      go_simp
      try with_reducible rfl
    try simp only [Act.put, List.setIfInBounds_toArray, List.set_cons_zero, List.set_cons_succ]
    refine wpAnyH_done (by kernel_rfl) ?_ _
    have HE : Hid (Below w.heap.size w _) := hHeld.1
    clear hHeld
    go_wp2_with fail
    go_ret
    exact ⟨HR.out ▸ rfl, HE.out⟩
set_option maxHeartbeats 6400000 in
set_option maxRecDepth 100000 in
theorem implSameWay_any (x y : Wy) (u v : Value) (w : World) (hlx : wtM x.path ≤ 1048576) (hly : wtM y.path ≤ 1048576) (wdx : ∀ c ∈ x.path, WdC c) (wdy : ∀ c ∈ y.path, WdC c) (hx : WyAt w u x) (hy : WyAt w v y) :
    Calls Try.prog 7 #[u, v] w fun e w' => e = .returned (.bool (swB x y)) ∧ Below w.heap.size w w' := by
  obtain ⟨pa, n, pc, hn, rfl⟩ := hx.shape
  obtain ⟨pb, m, qc, hm, rfl⟩ := hy.shape
  obtain ⟨S, hS⟩ : ∃ q : ByteArray, (⟨(pathT x.path).toArray⟩ : ByteArray) = q := ⟨_, rfl⟩
  obtain ⟨T, hT⟩ : ∃ q : ByteArray, (⟨(pathT y.path).toArray⟩ : ByteArray) = q := ⟨_, rfl⟩
  have HQ : Hid (∀ W, Below w.heap.size w W → Calls Try.prog 12 #[.slice pa n pc] W (fun e w' => e = .returned (.string S) ∧ Below W.heap.size W w')) := fun W h => by rw [← hS]; exact implPathText_any x.path _ W hlx wdx (hx.row.below h)
  have HQ2 : Hid (∀ W, Below w.heap.size w W → Calls Try.prog 12 #[.slice pb m qc] W (fun e w' => e = .returned (.string T) ∧ Below W.heap.size W w')) := fun W h => by rw [← hT]; exact implPathText_any y.path _ W hly wdy (hy.row.below h)
  obtain ⟨R, hR⟩ : ∃ b, swB x y = b := ⟨_, rfl⟩
  have HR0 : R = (decide (x.anchor = y.anchor) && (S.toList == T.toList)) := by rw [← hR]; unfold swB; rw [hS, hT]
  rw [hR]
  clear hx hy hlx hly wdx wdy hS hT hR hn hm
  obtain ⟨z1, hz1⟩ : ∃ z, x.anchor = z := ⟨_, rfl⟩
  obtain ⟨z2, hz2⟩ : ∃ z, y.anchor = z := ⟨_, rfl⟩
  rw [hz1, hz2] at HR0 ⊢
  clear hz1 hz2
  have HK0 : Hid (K2 w ((w.alloc (Obj.cells #[.int .i64 z1, .slice pa n pc] 29)).alloc (Obj.cells #[.int .i64 z2, .slice pb m qc] 29)).drew 29 #[.int .i64 z1, .slice pa n pc] #[.int .i64 z2, .slice pb m qc]) := by
    have e0 : (w.alloc (Obj.cells #[.int .i64 z1, .slice pa n pc] 29)).heap.size = w.heap.size + 1 := Array.size_push _
    have h := Blk.new (w.alloc (Obj.cells #[.int .i64 z1, .slice pa n pc] 29)) 29 #[.int .i64 z2, .slice pb m qc]
    rw [e0] at h
    exact (K2.below ⟨((Below.refl _ _).alloc (Nat.le_refl _) _).alloc (by rw [e0]; omega) _, (Blk.new w _ _).alloc _, h⟩ (Below.refl _ _).drew)
  by_cases hz : z1 = z2
  · have HR : Hid ((S.toList == T.toList) = R) := by show _ = R; rw [HR0, decide_eq_true hz]; rfl
    clear HR0
    subst hz
    go_enter Try.func7, Try.ntmps7
    go_upto_region 1 with fail
    refine wp_region_held_drew (S := fun W => K2 w W 29 #[.int .i64 z1, .slice pa n pc] #[.int .i64 z1, .slice pb m qc]) (by kernel_rfl) HK0.out (fun hHeld => ?_)
    clear HK0
    refine wpAnyH_take (i := 0) (oi := ⟨some 5, _, _, _, _, _⟩) (v := ?_) rfl (by kernel_rfl) (by kernel_rfl) (by kernel_rfl) (fun _ _ _ h => h) (Or.inl ⟨by rfl, ?_⟩) hHeld ?_
    rotate_left
    · intro W hSw
      go_simp
      try with_reducible rfl
    try simp only [Act.put, List.setIfInBounds_toArray, List.set_cons_zero, List.set_cons_succ]
    refine wpAnyH_take (i := 1) (oi := ⟨some 6, _, _, _, _, _⟩) (v := ?_) rfl (by kernel_rfl) (by kernel_rfl) (by kernel_rfl) (fun _ _ _ h => h) (Or.inl ⟨by rfl, ?_⟩) hHeld ?_
    rotate_left
    · intro W hSw
      have l0 : W.cell? ⟨w.heap.size, 0, none⟩ = some (.int .i64 z1) := hSw.2.1.cell 0
      have l1 : W.cell? ⟨w.heap.size, 1, none⟩ = some (.slice pa n pc) := hSw.2.1.cell 1
      have m0 : W.cell? ⟨w.heap.size + 1, 0, none⟩ = some (.int .i64 z1) := hSw.2.2.cell 0
      have m1 : W.cell? ⟨w.heap.size + 1, 1, none⟩ = some (.slice pb m qc) := hSw.2.2.cell 1
      go_simp
      try with_reducible rfl
    try simp only [Act.put, List.setIfInBounds_toArray, List.set_cons_zero, List.set_cons_succ]
    refine wpAnyH_take (i := 2) (oi := ⟨some 7, _, _, _, _, _⟩) (v := ?_) rfl (by kernel_rfl) (by kernel_rfl) (by kernel_rfl) (fun _ _ _ h => h) (Or.inl ⟨by rfl, ?_⟩) hHeld ?_
    rotate_left
    · intro W hSw
      go_simp
      try with_reducible rfl
    try simp only [Act.put, List.setIfInBounds_toArray, List.set_cons_zero, List.set_cons_succ]
    refine wpAnyH_take (i := 3) (oi := ⟨some 8, _, _, _, _, _⟩) (v := ?_) rfl (by kernel_rfl) (by kernel_rfl) (by kernel_rfl) (fun _ _ _ h => h) (Or.inl ⟨by rfl, ?_⟩) hHeld ?_
    rotate_left
    · intro W hSw
      have l0 : W.cell? ⟨w.heap.size, 0, none⟩ = some (.int .i64 z1) := hSw.2.1.cell 0
      have l1 : W.cell? ⟨w.heap.size, 1, none⟩ = some (.slice pa n pc) := hSw.2.1.cell 1
      have m0 : W.cell? ⟨w.heap.size + 1, 0, none⟩ = some (.int .i64 z1) := hSw.2.2.cell 0
      have m1 : W.cell? ⟨w.heap.size + 1, 1, none⟩ = some (.slice pb m qc) := hSw.2.2.cell 1
      go_simp
      try with_reducible rfl
    try simp only [Act.put, List.setIfInBounds_toArray, List.set_cons_zero, List.set_cons_succ]
    refine wpAnyH_take (i := 4) (oi := ⟨some 9, _, _, _, _, _⟩) (v := ?_) rfl (by kernel_rfl) (by kernel_rfl) (by kernel_rfl) (fun _ _ _ h => h) (Or.inl ⟨by rfl, ?_⟩) hHeld ?_
    rotate_left
    · intro W hSw
      go_simp
      try with_reducible rfl
    try simp only [Act.put, List.setIfInBounds_toArray, List.set_cons_zero, List.set_cons_succ]
    refine wpAnyH_take (i := 5) (oi := ⟨some 10, _, _, _, _, _⟩) (v := ?_) rfl (by kernel_rfl) (by kernel_rfl) (by kernel_rfl) (fun _ _ _ h => h) (Or.inl ⟨by rfl, ?_⟩) hHeld ?_
    rotate_left
    · intro W hSw
      go_simp
      try with_reducible rfl
    try simp only [Act.put, List.setIfInBounds_toArray, List.set_cons_zero, List.set_cons_succ]
    refine wpAnyH_take (i := 6) (oi := ⟨some 11, _, _, _, _, _⟩) (v := ?_) rfl (by kernel_rfl) (by kernel_rfl) (by kernel_rfl) (fun _ _ _ h => h) (Or.inl ⟨by rfl, ?_⟩) hHeld ?_
    rotate_left
    · intro W hSw
      go_simp
      try with_reducible rfl
    try simp only [Act.put, List.setIfInBounds_toArray, List.set_cons_zero, List.set_cons_succ]
    refine wpAnyH_take (i := 7) (oi := ⟨some 12, _, _, _, _, _⟩) (v := ?_) rfl (by kernel_rfl) (by kernel_rfl) (by kernel_rfl) (fun _ _ _ h => h) (Or.inl ⟨by rfl, ?_⟩) hHeld ?_
    rotate_left
    · intro W hSw
      have l0 : W.cell? ⟨w.heap.size, 0, none⟩ = some (.int .i64 z1) := hSw.2.1.cell 0
      have l1 : W.cell? ⟨w.heap.size, 1, none⟩ = some (.slice pa n pc) := hSw.2.1.cell 1
      have m0 : W.cell? ⟨w.heap.size + 1, 0, none⟩ = some (.int .i64 z1) := hSw.2.2.cell 0
      have m1 : W.cell? ⟨w.heap.size + 1, 1, none⟩ = some (.slice pb m qc) := hSw.2.2.cell 1
      go_simp
      try with_reducible rfl
    try simp only [Act.put, List.setIfInBounds_toArray, List.set_cons_zero, List.set_cons_succ]
    refine wpAnyH_take (i := 9) (oi := ⟨some 14, _, _, _, _, _⟩) (v := ?_) rfl (by kernel_rfl) (by kernel_rfl) (by kernel_rfl) (fun _ _ _ h => h) (Or.inl ⟨by rfl, ?_⟩) hHeld ?_
    rotate_left
    · intro W hSw
      go_simp
      try with_reducible rfl
    try simp only [Act.put, List.setIfInBounds_toArray, List.set_cons_zero, List.set_cons_succ]
    refine wpAnyH_take (i := 10) (oi := ⟨some 15, _, _, _, _, _⟩) (v := ?_) rfl (by kernel_rfl) (by kernel_rfl) (by kernel_rfl) (fun _ _ _ h => h) (Or.inl ⟨by rfl, ?_⟩) hHeld ?_
    rotate_left
    · intro W hSw
      have l0 : W.cell? ⟨w.heap.size, 0, none⟩ = some (.int .i64 z1) := hSw.2.1.cell 0
      have l1 : W.cell? ⟨w.heap.size, 1, none⟩ = some (.slice pa n pc) := hSw.2.1.cell 1
      have m0 : W.cell? ⟨w.heap.size + 1, 0, none⟩ = some (.int .i64 z1) := hSw.2.2.cell 0
      have m1 : W.cell? ⟨w.heap.size + 1, 1, none⟩ = some (.slice pb m qc) := hSw.2.2.cell 1
      go_simp
      try with_reducible rfl
    try simp only [Act.put, List.setIfInBounds_toArray, List.set_cons_zero, List.set_cons_succ]
    refine wpAnyH_ready (rs := [8]) (by kernel_rfl) (by simp) ?_
    refine AllReadyH.cons (o := ⟨some 13, _, _, _, _, _⟩) rfl (fun K hK => ?_) AllReadyH.nil
    go_simp
    refine (HQ.out _ hHeld.1).mono ?_
    rintro e w3 ⟨rfl, hb⟩
    have Hw3 : Hid (K2 w w3 29 #[.int .i64 z1, .slice pa n pc] #[.int .i64 z1, .slice pb m qc]) := hHeld.below hb
    clear hb hHeld
    refine hK.out _ _ (Hw3.out) (fun hHeld => ?_)
    clear hK K
    try simp only [Act.put, List.setIfInBounds_toArray, List.set_cons_zero, List.set_cons_succ]
    clear Hw3
    refine wpAnyH_ready (rs := [11]) (by kernel_rfl) (by simp) ?_
    refine AllReadyH.cons (o := ⟨some 16, _, _, _, _, _⟩) rfl (fun K hK => ?_) AllReadyH.nil
    go_simp
    refine (HQ2.out _ hHeld.1).mono ?_
    rintro e w4 ⟨rfl, hb⟩
    have Hw4 : Hid (K2 w w4 29 #[.int .i64 z1, .slice pa n pc] #[.int .i64 z1, .slice pb m qc]) := hHeld.below hb
    clear hb hHeld
    refine hK.out _ _ (Hw4.out) (fun hHeld => ?_)
    clear hK K
    try simp only [Act.put, List.setIfInBounds_toArray, List.set_cons_zero, List.set_cons_succ]
    clear Hw4
    refine wpAnyH_take (i := 12) (oi := ⟨some 17, _, _, _, _, _⟩) (v := ?_) rfl (by kernel_rfl) (by kernel_rfl) (by kernel_rfl) (fun _ _ _ h => h) (Or.inl ⟨by rfl, ?_⟩) hHeld ?_
    rotate_left
    · intro W hSw
      go_simp
      try with_reducible rfl
    try simp only [Act.put, List.setIfInBounds_toArray, List.set_cons_zero, List.set_cons_succ]
    refine wpAnyH_take (i := 13) (oi := ⟨some 18, _, _, _, _, _⟩) (v := ?_) rfl (by kernel_rfl) (by kernel_rfl) (by kernel_rfl) (fun _ _ _ h => h) (Or.inl ⟨by rfl, ?_⟩) hHeld ?_
    rotate_left
    · intro W hSw
      go_simp
      try with_reducible rfl
    try simp only [Act.put, List.setIfInBounds_toArray, List.set_cons_zero, List.set_cons_succ]
    refine wpAnyH_take (i := 14) (oi := ⟨some 4, _, _, _, _, _⟩) (v := ?_) rfl (by kernel_rfl) (by kernel_rfl) (by kernel_rfl) (fun _ _ _ h => h) (Or.inl ⟨by rfl, ?_⟩) hHeld ?_
    rotate_left
    · intro W hSw
      go_simp
      try with_reducible rfl
    try simp only [Act.put, List.setIfInBounds_toArray, List.set_cons_zero, List.set_cons_succ]
    refine wpAnyH_done (by kernel_rfl) ?_ _
    have HE : Hid (Below w.heap.size w _) := hHeld.1
    clear hHeld
    go_wp2_with fail
    go_ret
    exact ⟨HR.out ▸ rfl, HE.out⟩
  · have hb : (z1 == z2) = false := beq_eq_false_iff_ne.2 hz
    have HR : Hid (false = R) := by show _ = R; rw [HR0, decide_eq_false hz]; rfl
    clear HR0
    go_enter Try.func7, Try.ntmps7
    go_upto_region 1 with fail
    refine wp_region_held_drew (S := fun W => K2 w W 29 #[.int .i64 z1, .slice pa n pc] #[.int .i64 z2, .slice pb m qc]) (by kernel_rfl) HK0.out (fun hHeld => ?_)
    clear HK0
    refine wpAnyH_take (i := 0) (oi := ⟨some 5, _, _, _, _, _⟩) (v := ?_) rfl (by kernel_rfl) (by kernel_rfl) (by kernel_rfl) (fun _ _ _ h => h) (Or.inl ⟨by rfl, ?_⟩) hHeld ?_
    rotate_left
    · intro W hSw
      go_simp
      try with_reducible rfl
    try simp only [Act.put, List.setIfInBounds_toArray, List.set_cons_zero, List.set_cons_succ]
    refine wpAnyH_take (i := 1) (oi := ⟨some 6, _, _, _, _, _⟩) (v := ?_) rfl (by kernel_rfl) (by kernel_rfl) (by kernel_rfl) (fun _ _ _ h => h) (Or.inl ⟨by rfl, ?_⟩) hHeld ?_
    rotate_left
    · intro W hSw
      have l0 : W.cell? ⟨w.heap.size, 0, none⟩ = some (.int .i64 z1) := hSw.2.1.cell 0
      have l1 : W.cell? ⟨w.heap.size, 1, none⟩ = some (.slice pa n pc) := hSw.2.1.cell 1
      have m0 : W.cell? ⟨w.heap.size + 1, 0, none⟩ = some (.int .i64 z2) := hSw.2.2.cell 0
      have m1 : W.cell? ⟨w.heap.size + 1, 1, none⟩ = some (.slice pb m qc) := hSw.2.2.cell 1
      go_simp
      try with_reducible rfl
    try simp only [Act.put, List.setIfInBounds_toArray, List.set_cons_zero, List.set_cons_succ]
    refine wpAnyH_take (i := 2) (oi := ⟨some 7, _, _, _, _, _⟩) (v := ?_) rfl (by kernel_rfl) (by kernel_rfl) (by kernel_rfl) (fun _ _ _ h => h) (Or.inl ⟨by rfl, ?_⟩) hHeld ?_
    rotate_left
    · intro W hSw
      go_simp
      try with_reducible rfl
    try simp only [Act.put, List.setIfInBounds_toArray, List.set_cons_zero, List.set_cons_succ]
    refine wpAnyH_take (i := 3) (oi := ⟨some 8, _, _, _, _, _⟩) (v := ?_) rfl (by kernel_rfl) (by kernel_rfl) (by kernel_rfl) (fun _ _ _ h => h) (Or.inl ⟨by rfl, ?_⟩) hHeld ?_
    rotate_left
    · intro W hSw
      have l0 : W.cell? ⟨w.heap.size, 0, none⟩ = some (.int .i64 z1) := hSw.2.1.cell 0
      have l1 : W.cell? ⟨w.heap.size, 1, none⟩ = some (.slice pa n pc) := hSw.2.1.cell 1
      have m0 : W.cell? ⟨w.heap.size + 1, 0, none⟩ = some (.int .i64 z2) := hSw.2.2.cell 0
      have m1 : W.cell? ⟨w.heap.size + 1, 1, none⟩ = some (.slice pb m qc) := hSw.2.2.cell 1
      go_simp
      try with_reducible rfl
    try simp only [Act.put, List.setIfInBounds_toArray, List.set_cons_zero, List.set_cons_succ]
    refine wpAnyH_take (i := 4) (oi := ⟨some 9, _, _, _, _, _⟩) (v := ?_) rfl (by kernel_rfl) (by kernel_rfl) (by kernel_rfl) (fun _ _ _ h => h) (Or.inl ⟨by rfl, ?_⟩) hHeld ?_
    rotate_left
    · intro W hSw
      go_simp
      try with_reducible rfl
    try simp only [Act.put, List.setIfInBounds_toArray, List.set_cons_zero, List.set_cons_succ]
    refine wpAnyH_take (i := 5) (oi := ⟨some 10, _, _, _, _, _⟩) (v := ?_) rfl (by kernel_rfl) (by kernel_rfl) (by kernel_rfl) (fun _ _ _ h => h) (Or.inl ⟨by rfl, ?_⟩) hHeld ?_
    rotate_left
    · intro W hSw
      go_simp
      try with_reducible rfl
    try simp only [Act.put, List.setIfInBounds_toArray, List.set_cons_zero, List.set_cons_succ]
    refine wpAnyH_take (i := 6) (oi := ⟨some 11, _, _, _, _, _⟩) rfl (by kernel_rfl) (by kernel_rfl) (by kernel_rfl) (fun _ _ _ h => h) (Or.inr ⟨by rfl, rfl⟩) hHeld ?_
    try simp only [Act.put, List.setIfInBounds_toArray, List.set_cons_zero, List.set_cons_succ]
    refine wpAnyH_take (i := 7) (oi := ⟨some 12, _, _, _, _, _⟩) rfl (by kernel_rfl) (by kernel_rfl) (by kernel_rfl) (fun _ _ _ h => h) (Or.inr ⟨by rfl, rfl⟩) hHeld ?_
    try simp only [Act.put, List.setIfInBounds_toArray, List.set_cons_zero, List.set_cons_succ]
    refine wpAnyH_take (i := 8) (oi := ⟨some 13, _, _, _, _, _⟩) rfl (by kernel_rfl) (by kernel_rfl) (by kernel_rfl) (fun _ _ _ h => h) (Or.inr ⟨by rfl, rfl⟩) hHeld ?_
    try simp only [Act.put, List.setIfInBounds_toArray, List.set_cons_zero, List.set_cons_succ]
    refine wpAnyH_take (i := 9) (oi := ⟨some 14, _, _, _, _, _⟩) rfl (by kernel_rfl) (by kernel_rfl) (by kernel_rfl) (fun _ _ _ h => h) (Or.inr ⟨by rfl, rfl⟩) hHeld ?_
    try simp only [Act.put, List.setIfInBounds_toArray, List.set_cons_zero, List.set_cons_succ]
    refine wpAnyH_take (i := 10) (oi := ⟨some 15, _, _, _, _, _⟩) rfl (by kernel_rfl) (by kernel_rfl) (by kernel_rfl) (fun _ _ _ h => h) (Or.inr ⟨by rfl, rfl⟩) hHeld ?_
    try simp only [Act.put, List.setIfInBounds_toArray, List.set_cons_zero, List.set_cons_succ]
    refine wpAnyH_take (i := 11) (oi := ⟨some 16, _, _, _, _, _⟩) rfl (by kernel_rfl) (by kernel_rfl) (by kernel_rfl) (fun _ _ _ h => h) (Or.inr ⟨by rfl, rfl⟩) hHeld ?_
    try simp only [Act.put, List.setIfInBounds_toArray, List.set_cons_zero, List.set_cons_succ]
    refine wpAnyH_take (i := 12) (oi := ⟨some 17, _, _, _, _, _⟩) rfl (by kernel_rfl) (by kernel_rfl) (by kernel_rfl) (fun _ _ _ h => h) (Or.inr ⟨by rfl, rfl⟩) hHeld ?_
    try simp only [Act.put, List.setIfInBounds_toArray, List.set_cons_zero, List.set_cons_succ]
    refine wpAnyH_take (i := 13) (oi := ⟨some 18, _, _, _, _, _⟩) (v := ?_) rfl (by kernel_rfl) (by kernel_rfl) (by kernel_rfl) (fun _ _ _ h => h) (Or.inl ⟨by rfl, ?_⟩) hHeld ?_
    rotate_left
    · intro W hSw
      go_simp
      try with_reducible rfl
    try simp only [Act.put, List.setIfInBounds_toArray, List.set_cons_zero, List.set_cons_succ]
    refine wpAnyH_take (i := 14) (oi := ⟨some 4, _, _, _, _, _⟩) (v := ?_) rfl (by kernel_rfl) (by kernel_rfl) (by kernel_rfl) (fun _ _ _ h => h) (Or.inl ⟨by rfl, ?_⟩) hHeld ?_
    rotate_left
    · intro W hSw
      go_simp
      try with_reducible rfl
    try simp only [Act.put, List.setIfInBounds_toArray, List.set_cons_zero, List.set_cons_succ]
    refine wpAnyH_done (by kernel_rfl) ?_ _
    have HE : Hid (Below w.heap.size w _) := hHeld.1
    clear hHeld
    go_wp2_with fail
    go_ret
    exact ⟨HR.out ▸ rfl, HE.out⟩
end Go.Proofs.Ytplblechcnbieaa
