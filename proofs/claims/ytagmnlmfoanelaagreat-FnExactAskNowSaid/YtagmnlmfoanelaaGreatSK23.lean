/-
  Texts of the proof.
-/
import Derived.Test.YtagmnlmfoanelaaGreatSK21
set_option maxRecDepth 100000
set_option maxHeartbeats 25600000
namespace Go.Proofs.YtagmnlmfoanelaaGreat
open Go.RowKit
set_option linter.unusedVariables false
set_option linter.unusedSimpArgs false
def OwnCQ (w : World) (base : Nat) (v : Value) (c : Cn) (fp : List Nat) : Prop := ∃ bb, OwnCn bb w base v c fp
section
variable {w w' : World} {b b' : Nat} {v : Value} {c : Cn} {fp fq : List Nat}
theorem OwnCQ.at (h : OwnCQ w b v c fp) : CnAt w v c := h.elim fun _ h => h.at
theorem OwnCQ.stays (h : OwnCQ w b v c fp) (hb : Below w.heap.size w w') : OwnCQ w' b v c fp := h.imp fun _ h => h.stays hb
theorem OwnCQ.base (h : OwnCQ w b v c fp) (hb : b' <= b) : OwnCQ w b' v c fp := h.imp fun _ h => h.base hb
theorem OwnCQ.lt (h : OwnCQ w b v c fp) : ∀ y ∈ fp, b <= y /\ y < w.heap.size := h.elim fun _ h => h.lt
theorem OwnCQ.out (h : OwnCQ w b v c fp) (ho : Out fq w w') (hn : ∀ y ∈ fp, y ∉ fq) : OwnCQ w' b v c fp := h.imp fun _ h => h.out ho hn
end
theorem markClient_outQ (s : Cn) (v : Value) (k base : Nat) (fp : List Nat) (w : World) (hl : LmCn s) (hk1 : 1 <= k) (hk : k <= 20000000) (ha : OwnCQ w base v s fp) :
  Calls Tryz.prog 12 #[v, .int .i64 k] w fun e w' => e = .returned (.int .i64 ((pcn3 k s : Nat) : Int)) /\ OwnCQ w' base v (mkCn k s) fp /\ Out fp w w' := by
 obtain ⟨bb, ha⟩ := ha
 exact (markClient_out s v k base fp w hl hk1 hk ha).mono fun e w' h => ⟨h.1, ⟨bb, h.2.1⟩, h.2.2⟩
end Go.Proofs.YtagmnlmfoanelaaGreat
namespace Go.Proofs.YtagmnlmfoanelaaGreat
open Go.RowKit
set_option linter.unusedVariables false
theorem upTo_any (hi n : Int) (w : World) : Calls Tryz.prog 69 #[.int .i64 hi, .int .i64 n] w fun e w' => e = .returned (.bool (inB n 0 hi)) /\ Below w.heap.size w w' := by
 by_cases h : 0 <= n
 ·by_cases h2 : n <= hi
  ·have HB : Hid (inB n 0 hi = true) := decide_eq_true ⟨h, h2⟩
   go_enter Tryz.func69, Tryz.ntmps69
   go_wp2_with fail
   go_ret
   exact ⟨by rw [HB.out]; simp [*], Below.refl _ _⟩
  ·have HB : Hid (inB n 0 hi = false) := decide_eq_false (fun q => h2 q.2)
   go_enter Tryz.func69, Tryz.ntmps69
   go_wp2_with fail
   go_ret
   exact ⟨by rw [HB.out]; simp [*], Below.refl _ _⟩
 ·have HB : Hid (inB n 0 hi = false) := decide_eq_false (fun q => h q.1)
  go_enter Tryz.func69, Tryz.ntmps69
  go_wp2_with fail
  go_ret
  exact ⟨by rw [HB.out]; simp [*], Below.refl _ _⟩
end Go.Proofs.YtagmnlmfoanelaaGreat
namespace Go.Proofs.YtagmnlmfoanelaaGreat
open Go.RowKit Der
set_option linter.unusedVariables false
theorem conv_byte (x : Int) (b : UInt8) (hx : x = (b.toNat : Int)) (W : World) : (convert 107 9 (.slice (some ⟨W.heap.size, 0, none⟩) 1 1)).run Tryz.prog (W.alloc (.cells #[.int .u8 x] 5)) = .ok (.string ⟨#[b]⟩) (W.alloc (.cells #[.int .u8 x] 5)) := by
 have ho := World.ownsRow_lit (base := W.heap.size) (e := 5) (size := 1) W #[.int .u8 x] 1 (Nat.le_refl _) (by decide) rfl
 have e : (#[Value.int .u8 x]).toList = [b].map cellB := by
  subst hx
  rfl
 rw [e] at ho
 exact conv_own ho
theorem conv_at (x : Int) (b : UInt8) (hx : x = (b.toNat : Int)) (W : World) (g : Nat) (h : W.cell? ⟨g, 0, none⟩ = some (.int .u8 x)) : (convert 107 9 (.slice (some ⟨g, 0, none⟩) 1 1)).run Tryz.prog W = .ok (.string ⟨#[b]⟩) W := by
 exact run_convert_bytes_back _ 107 9 5 ⟨g, 0, none⟩ 1 [b] Tryz.underlying107 Tryz.underlying5 Tryz.underlying9 (by
  subst hx
  intro j hj
  have e : j = 0 := by simpa using hj
  subst e
  exact h)
theorem below_via {a X c : World} (hb : Below X.heap.size X c) (h : Below a.heap.size a X) : Below a.heap.size a c := h.trans (hb.mono h.size)
theorem beN_step {f m : Nat} {ds r : List UInt8} (h : beN f m ++ ds = r) (hm : m ≠ 0) (hf : m < 256 ^ f) : ∃ g, m / 256 < 256 ^ g /\ beN g (m / 256) ++ (UInt8.ofNat (m % 256) :: ds) = r := by
 cases f with
 | zero => simp at hf; omega
 | succ f =>
  refine ⟨f, by rw [Nat.pow_succ] at hf; omega, ?_⟩
  rw [<- h]
  conv => rhs; unfold beN
  rw [if_neg hm]
  simp
theorem beN_nil (f : Nat) : beN f 0 = [] := by cases f <;> simp [beN]
theorem length_any (n : Nat) (w : World) (hn : n <= 1000000000) : Calls Tryz.prog 81 #[.int .i64 (n : Int)] w fun e w' => e = .returned (.string ⟨(lenB n).toArray⟩) /\ Below w.heap.size w w' := by
 by_cases h128 : n < 128
 ·have h128i : (n : Int) < 128 := by omega
  have HN : Hid (lenB n = [UInt8.ofNat n]) := if_pos h128
  have hcv := conv_byte (n : Int) (UInt8.ofNat n) (by rw [UInt8.toNat_ofNat']; omega)
  go_enter Tryz.func81, Tryz.ntmps81
  go_wp2_with fail
  go_ret
  exact ⟨by rw [HN.out]; rfl, (Below.refl _ _).alloc (Nat.le_refl _) _⟩
 ·have h128i : ¬ (n : Int) < 128 := by omega
  have HN : Hid (lenB n = UInt8.ofNat (128 + (beN 9 n).length) :: beN 9 n) := if_neg h128
  have hbl := beN_len 9 n
  go_enter Tryz.func81, Tryz.ntmps81
  go_wp2_with fail
  go_loopw [3, 0] (fun sv kv wr => ∃ (m : Nat) (ds : List UInt8), m <= n /\ kv = .int .i64 (m : Int) /\ sv = .string ⟨ds.toArray⟩ /\ Hid (∃ f, m < 256 ^ f /\ beN f m ++ ds = beN 9 n) /\ Below w.heap.size w wr) (fun _ kv _ => (intOf kv).toNat)
  case atStart => exact ⟨n, [], Nat.le_refl _, rfl, rfl, ⟨9, by omega, by simp⟩, Below.refl _ _⟩
  case round =>
   obtain ⟨m, ds, hm, rfl, rfl, HD, hbel⟩ := hrel
   have hdl : ds.length <= 9 := by
    obtain ⟨f, _, hf⟩ := HD.out
    have := congrArg List.length hf
    rw [List.length_append] at this
    omega
   by_cases hm0 : m = 0
   ·subst hm0
    have HF : Hid (ds = beN 9 n) := by
     obtain ⟨f, _, hf⟩ := HD.out
     rw [beN_nil, List.nil_append] at hf
     exact hf
    have hsz : (⟨ds.toArray⟩ : ByteArray).size = ds.length := by show ds.toArray.size = _; simp
    obtain ⟨b, hb⟩ := zE (UInt8.ofNat (128 + ds.length))
    have hcv := conv_byte (128 + (ds.length : Int)) b (by rw [<- hb, UInt8.toNat_ofNat']; omega)
    have HR : Hid ((⟨(lenB n).toArray⟩ : ByteArray) = ⟨#[b]⟩ ++ ⟨ds.toArray⟩) := by
     show (⟨(lenB n).toArray⟩ : ByteArray) = ⟨#[b]⟩ ++ ⟨ds.toArray⟩
     rw [HN.out, <- HF.out, hb, cat_oneM]
    clear hb
    go_wp2_with fail
    go_ret
    exact ⟨by rw [HR.out]; rfl, hbel.alloc hbel.size _⟩
   ·have hmp : (0 : Int) < (m : Int) := by omega
    have hcv := conv_byte ((m : Int) % 256) (UInt8.ofNat (m % 256)) (by rw [UInt8.toNat_ofNat']; omega)
    have HS : Hid (∃ g, m / 256 < 256 ^ g /\ beN g (m / 256) ++ (UInt8.ofNat (m % 256) :: ds) = beN 9 n) := by
     obtain ⟨f, h1, h2⟩ := HD.out
     exact beN_step h2 hm0 h1
    go_wp2_with fail
    go_roundw
    case rel => exact ⟨m / 256, UInt8.ofNat (m % 256) :: ds, by omega, by go_num, by rw [cat_oneM], HS.out, hbel.alloc hbel.size _⟩
    case measure => simp [intOf]; omega
def bodyI (n : Nat) (x : It (n + 1)) : List UInt8 := if It.tag x = 48 then It.text x ++ ((It.kids x).map (txtI n)).flatten else It.text x
theorem txtI_body {n : Nat} (x : It (n + 1)) : txtI (n + 1) x = UInt8.ofNat ((It.tag x) % 256).toNat :: (lenB (bodyI n x).length ++ bodyI n x) := rfl
theorem beN_short9 (n : Nat) : (lenB n).length <= 10 := by
 unfold lenB
 have := beN_len 9 n
 split
 ·simp
 ·simp; omega
theorem txt_le : ∀ (n : Nat) (x : It n), (txtI n x).length <= 11 + 12 * szI n x
 | 0, x => (x : Empty).elim
 | n + 1, x => by
  have hk : ∀ ks : List (It n), ((ks.map (txtI n)).flatten).length <= 11 * ks.length + 12 * (ks.map (szI n)).sum := by
   intro ks
   induction ks with
   | nil => simp
   | cons y r ih =>
    have := txt_le n y
    simp only [List.map_cons, List.flatten_cons, List.length_append, List.length_cons, List.sum_cons]
    omega
  have h1 := hk (It.kids x)
  have h2 := beN_short9 (bodyI n x).length
  have h3 : (bodyI n x).length <= (It.text x).length + 11 * (It.kids x).length + 12 * ((It.kids x).map (szI n)).sum := by
   unfold bodyI
   split
   ·rw [List.length_append]; omega
   ·omega
  rw [txtI_body]
  simp only [List.length_cons, List.length_append]
  show _ <= 11 + 12 * ((It.text x).length + (It.kids x).length + ((It.kids x).map (szI n)).sum)
  omega
def TextC (n : Nat) : Prop := ∀ (x : It n) (v : Value) (w : World), ItAt w n v x -> szI n x <= 20000000 -> Calls Tryz.prog 66 #[v] w fun e w' => e = .returned (.string ⟨(txtI n x).toArray⟩) /\ Below w.heap.size w w'
theorem text_step (n : Nat) (IH : Hid (TextC n)) (t : Int) (s : List UInt8) (ks : List (It n)) (a : Value) (w : World) (hx : KidsAt w (ItAt w n) a ks) (hz : szI (n + 1) (It.mk t s ks) <= 20000000) :
  Calls Tryz.prog 66 #[.agg #[.int .i64 t, .string ⟨s.toArray⟩, a]] w fun e w' => e = .returned (.string ⟨(txtI (n + 1) (It.mk t s ks)).toArray⟩) /\ Below w.heap.size w w' := by
 have hx0 := hx
 obtain ⟨ax, cx, rfl, _⟩ := hx0
 have hsz := szI_kid hz
 have htl := txt_le (n + 1) (It.mk t s ks)
 obtain ⟨l, hle⟩ := zE (ks.length)
 have HE : Hid (ks.length = l /\ szI (n + 1) (It.mk t s ks) <= 20000000) := ⟨hle, hz⟩
 have hlb : l <= 20000000 := by rw [<- hle]; exact hsz.2.1
 rw [hle] at hx |-
 have HX : Hid (KidsAt w (ItAt w n) (.slice ax l cx) ks) := hx
 obtain ⟨W2, hW2⟩ : ∃ W, W = w.alloc (Obj.cells #[Value.int IntKind.i64 t, Value.string { data := s.toArray }, Value.slice ax l cx] 87) := ⟨_, rfl⟩
 have HW := one_laid w (.int .i64 t) (.string ⟨s.toArray⟩) (.slice ax l cx) 87 W2 hW2
 have HW2 := zH (zJ HW.1 (zJ HW.2.1 (zJ HW.2.2.1 HW.2.2.2.2)))
 have HT : Hid (txtI (n + 1) (It.mk t s ks) = UInt8.ofNat (t % 256).toNat :: (lenB (bodyI n (It.mk t s ks)).length ++ bodyI n (It.mk t s ks)) /\ (txtI (n + 1) (It.mk t s ks)).length <= 400000000) := ⟨txtI_body _, by omega⟩
 clear hx hz hle hsz htl HW
 by_cases h48 : t = 48
 ·subst h48
  have HBD : Hid (bodyI n (It.mk 48 s ks) = s ++ (ks.map (txtI n)).flatten) := if_pos rfl
  have HLN : Hid ((s ++ (ks.map (txtI n)).flatten).length <= 400000000) := by
   have h1 := HT.out.1
   have h2 := HT.out.2
   rw [h1, HBD.out] at h2
   simp only [List.length_cons, List.length_append] at h2 |-
   show s.length + _ <= _
   omega
  go_enter Tryz.func66, Tryz.ntmps66
  go_wp2_with fail
  rw [<- hW2]
  clear hW2
  go_loopw [3, 4] (fun sv iv wr => ∃ (k : Nat) (B : List UInt8), k <= l /\ sv = .string ⟨B.toArray⟩ /\ iv = .int .i64 (k : Int) /\ Hid (B = s ++ ((ks.take k).map (txtI n)).flatten /\ Below W2.heap.size W2 wr)) (fun _ iv _ => l - (intOf iv).toNat)
  case atStart => exact ⟨0, s, Nat.zero_le _, rfl, rfl, by simp, Below.refl _ _⟩
  case round =>
   obtain ⟨k, B, hk, rfl, rfl, HB⟩ := hrel
   have p1 : wr.cell? ⟨w.heap.size, 2, none⟩ = some (.slice ax l cx) := (HB.out.2.cell (p := ⟨w.heap.size, 2, none⟩) HW2.out.2.1).trans HW2.out.2.2.2
   have cT : wr.cell? ⟨w.heap.size, 0, none⟩ = some (.int .i64 48) := (HB.out.2.cell (p := ⟨w.heap.size, 0, none⟩) HW2.out.2.1).trans HW2.out.2.2.1
   have HWR : Hid (Below w.heap.size w wr) := HW2.out.1.trans (HB.out.2.mono HW2.out.1.size)
   by_cases hlt : k < l
   ·have hlti : (k : Int) < (l : Int) := by omega
    have hk0 : (0 : Int) <= (k : Int) := by omega
    have hj1 : k < ks.length := by rw [HE.out.1]; exact hlt
    obtain ⟨g1, o1, t1, s1, k1, hax, hg1, hc1, hi1⟩ := HX.out.get hj1
    obtain ⟨c10, c11, c12⟩ := Cells3.below (w' := wr) (t := t1) (s := s1) (k := k1) hc1 hg1 HWR.out
    have HR := IH.out ks[k] (.agg #[t1, s1, k1]) wr (ItAt.below HWR.out hi1) ((szI_kid HE.out.2).2.2 _ (List.getElem_mem hj1))
    have hne : B ++ txtI n ks[k] = s ++ ((ks.take (k + 1)).map (txtI n)).flatten := by
     rw [HB.out.1, List.take_add_one, List.map_append, List.flatten_append, List.append_assoc]
     simp [hj1]
    have hle2 : (B ++ txtI n ks[k]).length <= 400000000 := by
     have h1 := HLN.out
     rw [hne]
     have h2 := congrArg (fun q => (q.map (txtI n)).flatten.length) (List.take_append_drop (k + 1) ks)
     simp only [List.map_append, List.flatten_append, List.length_append] at h1 h2 |-
     omega
    obtain ⟨T, hT⟩ : ∃ T : List UInt8, txtI n ks[k] = T := ⟨_, rfl⟩
    rw [hT] at HR hne hle2
    have ra := fun W => run_string_add_sum (P := Tryz.prog) W ⟨B.toArray⟩ ⟨T.toArray⟩ (by show B.toArray.size + T.toArray.size <= _; simp at hle2 |-; omega)
    have hcat : (⟨B.toArray⟩ : ByteArray) ++ ⟨T.toArray⟩ = ⟨(B ++ T).toArray⟩ := by
     apply ByteArray.ext
     simp
    have HNE : Hid (B ++ T = s ++ ((ks.take (k + 1)).map (txtI n)).flatten) := hne
    subst hax
    clear hc1 hi1 hg1 hne hle2 hT
    go_wp2_with fail
    refine HR.mono ?_
    rintro e w3 ⟨rfl, hb3⟩
    have H3 : Hid (Below W2.heap.size W2 w3) := HB.out.2.trans (hb3.mono HB.out.2.size)
    clear HR hb3 c10 c11 c12 p1 cT
    go_wp2_with fail
    exact ⟨⟨k + 1, B ++ T, by omega, by rw [<- hcat], by go_num, HNE.out, H3.out⟩, by simp [intOf]; omega⟩
   ·have hlti : ¬ (k : Int) < (l : Int) := by omega
    have HBE : Hid (B = s ++ (ks.map (txtI n)).flatten) := by
     have h1 := HB.out.1
     rw [List.take_of_length_le (by have := HE.out.1; omega)] at h1
     exact h1
    have hBl : B.length <= 400000000 := by have := HLN.out; rw [<- HBE.out] at this; exact this
    obtain ⟨x, hx⟩ : ∃ x : Int, (48 : Int) = x := ⟨_, rfl⟩
    obtain ⟨b, hb⟩ : ∃ b : UInt8, (48 : UInt8) = b := ⟨_, rfl⟩
    have hwt : IntKind.u8.wrap 48 = x := by rw [<- hx]; rfl
    have hcv := conv_at x b (by rw [<- hx, <- hb]; rfl)
    have hssz : (⟨B.toArray⟩ : ByteArray).size = B.length := by show B.toArray.size = _; simp
    have EL := fun W => length_any B.length W (by omega)
    obtain ⟨L, hL⟩ : ∃ L : ByteArray, (⟨(lenB B.length).toArray⟩ : ByteArray) = L := ⟨_, rfl⟩
    rw [hL] at EL
    have HR : Hid ((⟨(txtI (n + 1) (It.mk 48 s ks)).toArray⟩ : ByteArray) = ⟨#[b]⟩ ++ L ++ ⟨B.toArray⟩ /\ L.size <= 10) := by
     have h1 := HT.out.1
     rw [HBD.out, <- HBE.out] at h1
     refine ⟨?_, ?_⟩
     ·rw [h1, <- hL, <- hb]
      apply ByteArray.ext
      simp
     ·rw [<- hL]; show ((lenB B.length).toArray).size <= 10; have := beN_short9 B.length; simpa using this
    have ra := fun W => run_string_add_sum (P := Tryz.prog) W ⟨#[b]⟩ L (by show 1 + L.size <= _; have := HR.out.2; omega)
    have rb := fun W => run_string_add_sum (P := Tryz.prog) W (⟨#[b]⟩ ++ L) ⟨B.toArray⟩ (by rw [ByteArray.size_append, hssz]; show 1 + L.size + B.length <= _; have := HR.out.2; omega)
    have hlt2 : w.heap.size < wr.heap.size := Nat.lt_of_lt_of_le HW2.out.2.1 HB.out.2.size
    have hne2 := Nat.ne_of_lt hlt2
    clear hL hx hb
    go_wp2_with fail
    clear p1
    go_region_with (go_at_call 81; refine (EL _).mono ?_; rintro e w3 ⟨rfl, hb3⟩; have cT3 : w3.cell? ⟨w.heap.size, 0, none⟩ = some (.int .i64 48) := (hb3.cell (p := ⟨w.heap.size, 0, none⟩) (by first | exact hlt2 | (simp; omega))).trans (by first | exact cT | go_keep); have hcar := fun (p : Addr) (h : p.block < _) => hb3.cell (p := p) h; have hB3 := below_via hb3 (by first | exact HWR.out.drew | exact (HWR.out.drew.alloc HWR.out.drew.size _).drew | exact HWR.out.drew.alloc HWR.out.drew.size _ | exact HWR.out); clear hb3)
    all_goals (
     go_wp2_with fail
     go_ret
     exact ⟨by rw [HR.out.1]; rfl, by first | exact hB3 | exact hB3.drew | exact hB3.alloc hB3.size _ | exact hB3.drew.alloc hB3.size _ | exact (hB3.alloc hB3.size _).drew | exact (hB3.drew.alloc hB3.size _).drew⟩)
 ·have h48b : (t == 48) = false := by simpa using h48
  have HBD : Hid (bodyI n (It.mk t s ks) = s) := if_neg h48
  have hwt : IntKind.u8.wrap t = t % 256 := by rw [IntKind.wrap_u8]
  obtain ⟨x, hx⟩ : ∃ x : Int, t % 256 = x := ⟨_, rfl⟩
  obtain ⟨b, hb⟩ := zE (UInt8.ofNat (t % 256).toNat)
  have hxb : x = (b.toNat : Int) := by rw [<- hb, UInt8.toNat_ofNat', <- hx]; omega
  rw [hx] at hwt
  have hcv := conv_at x b hxb
  have hssz : (⟨s.toArray⟩ : ByteArray).size = s.length := by show s.toArray.size = _; simp
  have EL := fun W => length_any s.length W (by have := HT.out.2; have h1 := HT.out.1; rw [h1, HBD.out] at this; simp at this; omega)
  obtain ⟨L, hL⟩ : ∃ L : ByteArray, (⟨(lenB s.length).toArray⟩ : ByteArray) = L := ⟨_, rfl⟩
  rw [hL] at EL
  have HR : Hid ((⟨(txtI (n + 1) (It.mk t s ks)).toArray⟩ : ByteArray) = ⟨#[b]⟩ ++ L ++ ⟨s.toArray⟩ /\ L.size <= 10 /\ s.length <= 400000000) := by
   have h1 := HT.out.1
   have h2 := HT.out.2
   rw [HBD.out] at h1
   rw [h1] at h2
   refine ⟨?_, ?_, ?_⟩
   ·rw [h1, hb, <- hL]
    apply ByteArray.ext
    simp
   ·rw [<- hL]; show ((lenB s.length).toArray).size <= 10; have := beN_short9 s.length; simpa using this
   ·simp at h2; omega
  have ra := fun W => run_string_add_sum (P := Tryz.prog) W ⟨#[b]⟩ L (by show 1 + L.size <= _; have := HR.out.2.1; omega)
  have rb := fun W => run_string_add_sum (P := Tryz.prog) W (⟨#[b]⟩ ++ L) ⟨s.toArray⟩ (by rw [ByteArray.size_append, hssz]; show 1 + L.size + s.length <= _; have := HR.out.2; omega)
  have cT := HW2.out.2.2.1
  go_enter Tryz.func66, Tryz.ntmps66
  go_wp2_with fail
  rw [<- hW2]
  clear hW2 hL hb hx hxb
  have hlt2 := HW2.out.2.1
  have hne2 := Nat.ne_of_lt hlt2
  go_region_with (go_at_call 81; refine (EL _).mono ?_; rintro e w3 ⟨rfl, hb3⟩; have cT3 : w3.cell? ⟨w.heap.size, 0, none⟩ = some (.int .i64 t) := (hb3.cell (p := ⟨w.heap.size, 0, none⟩) (by first | exact hlt2 | (simp; omega))).trans (by first | exact cT | go_keep); have hcar := fun (p : Addr) (h : p.block < _) => hb3.cell (p := p) h; have hB3 := below_via hb3 (by first | exact HW2.out.1.drew | exact (HW2.out.1.drew.alloc HW2.out.1.drew.size _).drew | exact HW2.out.1.drew.alloc HW2.out.1.drew.size _ | exact HW2.out.1); clear hb3)
  all_goals (
   go_wp2_with fail
   go_ret
   exact ⟨by rw [HR.out.1]; rfl, by first | exact hB3 | exact hB3.drew | exact hB3.alloc hB3.size _ | exact hB3.drew.alloc hB3.size _ | exact (hB3.alloc hB3.size _).drew | exact (hB3.drew.alloc hB3.size _).drew⟩)
theorem text_any : ∀ (n : Nat), TextC n
 | 0 => fun _ _ _ h _ => h.elim
 | n + 1 => fun x v w hx hz => by
  obtain ⟨kx, rfl, hkx⟩ := hx
  exact text_step n (text_any n) (It.tag x) (It.text x) (It.kids x) kx w hkx hz
end Go.Proofs.YtagmnlmfoanelaaGreat
