/-
  Texts of the proof.
-/
import Derived.Deep.RegionLaw
import Derived.Test.YthbdgdfanpbkeaaGreatAQ5
import Derived.Test.YthbdgdfanpbkeaaGreatAQ7
set_option maxRecDepth 100000
set_option maxHeartbeats 25600000
namespace Go.Proofs.YthbdgdfanpbkeaaGreat
open Go.RowKit Der
set_option linter.unusedVariables false
theorem conv_byte (x : Int) (b : UInt8) (hx : x = (b.toNat : Int)) (W : World) : (convert 22 9 (.slice (some ⟨W.heap.size, 0, none⟩) 1 1)).run Tryz.prog (W.alloc (.cells #[.int .u8 x] 5)) = .ok (.string ⟨#[b]⟩) (W.alloc (.cells #[.int .u8 x] 5)) := by
 have ho := World.ownsRow_lit (base := W.heap.size) (e := 5) (size := 1) W #[.int .u8 x] 1 (Nat.le_refl _) (by decide) rfl
 have e : (#[Value.int .u8 x]).toList = [b].map cellB := by
  subst hx
  rfl
 rw [e] at ho
 exact conv_own ho
theorem conv_at (x : Int) (b : UInt8) (hx : x = (b.toNat : Int)) (W : World) (g : Nat) (h : W.cell? ⟨g, 0, none⟩ = some (.int .u8 x)) : (convert 22 9 (.slice (some ⟨g, 0, none⟩) 1 1)).run Tryz.prog W = .ok (.string ⟨#[b]⟩) W := by
 exact run_convert_bytes_back _ 22 9 5 ⟨g, 0, none⟩ 1 [b] Tryz.underlying22 Tryz.underlying5 Tryz.underlying9 (by
  subst hx
  intro j hj
  have e : j = 0 := by simpa using hj
  subst e
  exact h)
theorem below_via {a X c : World} (hb : Below X.heap.size X c) (h : Below a.heap.size a X) : Below a.heap.size a c := h.trans (hb.mono h.size)
theorem beN_step {f m : Nat} {ds r : List UInt8} (h : beN f m ++ ds = r) (hm : m ≠ 0) (hf : m < 256 ^ f) : ∃ g, m / 256 < 256 ^ g /\ beN g (m / 256) ++ (UInt8.ofNat (m % 256) :: ds) = r := by
 cases f with
 | zero => simp at hf; omega
 | succ f =>
  refine ⟨f, by rw [Nat.pow_succ] at hf; omega, ?_⟩
  rw [<- h]
  conv => rhs; unfold beN
  rw [if_neg hm]
  simp
theorem beN_nil (f : Nat) : beN f 0 = [] := by cases f <;> simp [beN]
theorem length_any (n : Nat) (w : World) (hn : n <= 1000000000) : Calls Tryz.prog 71 #[.int .i64 (n : Int)] w fun e w' => e = .returned (.string ⟨(lenB n).toArray⟩) /\ Below w.heap.size w w' := by
 by_cases h128 : n < 128
 ·have h128i : (n : Int) < 128 := by omega
  have HN : Hid (lenB n = [UInt8.ofNat n]) := if_pos h128
  have hcv := conv_byte (n : Int) (UInt8.ofNat n) (by rw [UInt8.toNat_ofNat']; omega)
  go_enter Tryz.func71, Tryz.ntmps71
  go_wp2_with fail
  go_ret
  exact ⟨by rw [HN.out]; rfl, (Below.refl _ _).alloc (Nat.le_refl _) _⟩
 ·have h128i : ¬ (n : Int) < 128 := by omega
  have HN : Hid (lenB n = UInt8.ofNat (128 + (beN 9 n).length) :: beN 9 n) := if_neg h128
  have hbl := beN_len 9 n
  go_enter Tryz.func71, Tryz.ntmps71
  go_wp2_with fail
  go_loopw [3, 0] (fun sv kv wr => ∃ (m : Nat) (ds : List UInt8), m <= n /\ kv = .int .i64 (m : Int) /\ sv = .string ⟨ds.toArray⟩ /\ Hid (∃ f, m < 256 ^ f /\ beN f m ++ ds = beN 9 n) /\ Below w.heap.size w wr) (fun _ kv _ => (intOf kv).toNat)
  case atStart => exact ⟨n, [], Nat.le_refl _, rfl, rfl, ⟨9, by omega, by simp⟩, Below.refl _ _⟩
  case round =>
   obtain ⟨m, ds, hm, rfl, rfl, HD, hbel⟩ := hrel
   have hdl : ds.length <= 9 := by
    obtain ⟨f, _, hf⟩ := HD.out
    have := congrArg List.length hf
    rw [List.length_append] at this
    omega
   by_cases hm0 : m = 0
   ·subst hm0
    have HF : Hid (ds = beN 9 n) := by
     obtain ⟨f, _, hf⟩ := HD.out
     rw [beN_nil, List.nil_append] at hf
     exact hf
    have hsz : (⟨ds.toArray⟩ : ByteArray).size = ds.length := by show ds.toArray.size = _; simp
    obtain ⟨b, hb⟩ := zE (UInt8.ofNat (128 + ds.length))
    have hcv := conv_byte (128 + (ds.length : Int)) b (by rw [<- hb, UInt8.toNat_ofNat']; omega)
    have HR : Hid ((⟨(lenB n).toArray⟩ : ByteArray) = ⟨#[b]⟩ ++ ⟨ds.toArray⟩) := by
     show (⟨(lenB n).toArray⟩ : ByteArray) = ⟨#[b]⟩ ++ ⟨ds.toArray⟩
     rw [HN.out, <- HF.out, hb, cat_oneM]
    clear hb
    go_wp2_with fail
    go_ret
    exact ⟨by rw [HR.out]; rfl, hbel.alloc hbel.size _⟩
   ·have hmp : (0 : Int) < (m : Int) := by omega
    have hcv := conv_byte ((m : Int) % 256) (UInt8.ofNat (m % 256)) (by rw [UInt8.toNat_ofNat']; omega)
    have HS : Hid (∃ g, m / 256 < 256 ^ g /\ beN g (m / 256) ++ (UInt8.ofNat (m % 256) :: ds) = beN 9 n) := by
     obtain ⟨f, h1, h2⟩ := HD.out
     exact beN_step h2 hm0 h1
    go_wp2_with fail
    go_roundw
    case rel => exact ⟨m / 256, UInt8.ofNat (m % 256) :: ds, by omega, by go_num, by rw [cat_oneM], HS.out, hbel.alloc hbel.size _⟩
    case measure => simp [intOf]; omega
def bodyI (n : Nat) (x : It (n + 1)) : List UInt8 := if It.tag x = 48 then It.text x ++ ((It.kids x).map (txtI n)).flatten else It.text x
theorem txtI_body {n : Nat} (x : It (n + 1)) : txtI (n + 1) x = UInt8.ofNat ((It.tag x) % 256).toNat :: (lenB (bodyI n x).length ++ bodyI n x) := rfl
theorem beN_short9 (n : Nat) : (lenB n).length <= 10 := by
 unfold lenB
 have := beN_len 9 n
 split
 ·simp
 ·simp; omega
theorem txt_le : ∀ (n : Nat) (x : It n), (txtI n x).length <= 11 + 12 * szI n x
 | 0, x => (x : Empty).elim
 | n + 1, x => by
  have hk : ∀ ks : List (It n), ((ks.map (txtI n)).flatten).length <= 11 * ks.length + 12 * (ks.map (szI n)).sum := by
   intro ks
   induction ks with
   | nil => simp
   | cons y r ih =>
    have := txt_le n y
    simp only [List.map_cons, List.flatten_cons, List.length_append, List.length_cons, List.sum_cons]
    omega
  have h1 := hk (It.kids x)
  have h2 := beN_short9 (bodyI n x).length
  have h3 : (bodyI n x).length <= (It.text x).length + 11 * (It.kids x).length + 12 * ((It.kids x).map (szI n)).sum := by
   unfold bodyI
   split
   ·rw [List.length_append]; omega
   ·omega
  rw [txtI_body]
  simp only [List.length_cons, List.length_append]
  show _ <= 11 + 12 * ((It.text x).length + (It.kids x).length + ((It.kids x).map (szI n)).sum)
  omega
def TextC (n : Nat) : Prop := ∀ (x : It n) (v : Value) (w : World), ItAt w n v x -> szI n x <= 20000000 -> Calls Tryz.prog 46 #[v] w fun e w' => e = .returned (.string ⟨(txtI n x).toArray⟩) /\ Below w.heap.size w w'
theorem text_step (n : Nat) (IH : Hid (TextC n)) (t : Int) (s : List UInt8) (ks : List (It n)) (a : Value) (w : World) (hx : KidsAt w (ItAt w n) a ks) (hz : szI (n + 1) (It.mk t s ks) <= 20000000) :
  Calls Tryz.prog 46 #[.agg #[.int .i64 t, .string ⟨s.toArray⟩, a]] w fun e w' => e = .returned (.string ⟨(txtI (n + 1) (It.mk t s ks)).toArray⟩) /\ Below w.heap.size w w' := by
 have hx0 := hx
 obtain ⟨ax, cx, rfl, _⟩ := hx0
 have hsz := szI_kid hz
 have htl := txt_le (n + 1) (It.mk t s ks)
 obtain ⟨l, hle⟩ := zE (ks.length)
 have HE : Hid (ks.length = l /\ szI (n + 1) (It.mk t s ks) <= 20000000) := ⟨hle, hz⟩
 have hlb : l <= 20000000 := by rw [<- hle]; exact hsz.2.1
 rw [hle] at hx |-
 have HX : Hid (KidsAt w (ItAt w n) (.slice ax l cx) ks) := hx
 obtain ⟨W2, hW2⟩ : ∃ W, W = w.alloc (Obj.cells #[Value.int IntKind.i64 t, Value.string { data := s.toArray }, Value.slice ax l cx] 41) := ⟨_, rfl⟩
 have HW := one_laid w (.int .i64 t) (.string ⟨s.toArray⟩) (.slice ax l cx) 41 W2 hW2
 have HW2 : Hid (Below w.heap.size w W2 /\ w.heap.size < W2.heap.size /\ W2.cell? ⟨w.heap.size, 0, none⟩ = some (.int .i64 t) /\ W2.cell? ⟨w.heap.size, 2, none⟩ = some (.slice ax l cx)) := ⟨HW.1, HW.2.1, HW.2.2.1, HW.2.2.2.2⟩
 have HT : Hid (txtI (n + 1) (It.mk t s ks) = UInt8.ofNat (t % 256).toNat :: (lenB (bodyI n (It.mk t s ks)).length ++ bodyI n (It.mk t s ks)) /\ (txtI (n + 1) (It.mk t s ks)).length <= 400000000) := ⟨txtI_body _, by omega⟩
 clear hx hz hle hsz htl HW
 by_cases h48 : t = 48
 ·subst h48
  have HBD : Hid (bodyI n (It.mk 48 s ks) = s ++ (ks.map (txtI n)).flatten) := if_pos rfl
  have HLN : Hid ((s ++ (ks.map (txtI n)).flatten).length <= 400000000) := by
   have h1 := HT.out.1
   have h2 := HT.out.2
   rw [h1, HBD.out] at h2
   simp only [List.length_cons, List.length_append] at h2 |-
   show s.length + _ <= _
   omega
  go_enter Tryz.func46, Tryz.ntmps46
  go_wp2_with fail
  rw [<- hW2]
  clear hW2
  go_loopw [3, 4] (fun sv iv wr => ∃ (k : Nat) (B : List UInt8), k <= l /\ sv = .string ⟨B.toArray⟩ /\ iv = .int .i64 (k : Int) /\ Hid (B = s ++ ((ks.take k).map (txtI n)).flatten /\ Below W2.heap.size W2 wr)) (fun _ iv _ => l - (intOf iv).toNat)
  case atStart => exact ⟨0, s, Nat.zero_le _, rfl, rfl, by simp, Below.refl _ _⟩
  case round =>
   obtain ⟨k, B, hk, rfl, rfl, HB⟩ := hrel
   have p1 : wr.cell? ⟨w.heap.size, 2, none⟩ = some (.slice ax l cx) := (HB.out.2.cell (p := ⟨w.heap.size, 2, none⟩) HW2.out.2.1).trans HW2.out.2.2.2
   have cT : wr.cell? ⟨w.heap.size, 0, none⟩ = some (.int .i64 48) := (HB.out.2.cell (p := ⟨w.heap.size, 0, none⟩) HW2.out.2.1).trans HW2.out.2.2.1
   have HWR : Hid (Below w.heap.size w wr) := HW2.out.1.trans (HB.out.2.mono HW2.out.1.size)
   by_cases hlt : k < l
   ·have hlti : (k : Int) < (l : Int) := by omega
    have hk0 : (0 : Int) <= (k : Int) := by omega
    have hj1 : k < ks.length := by rw [HE.out.1]; exact hlt
    obtain ⟨g1, o1, t1, s1, k1, hax, hg1, hc1, hi1⟩ := HX.out.get hj1
    obtain ⟨c10, c11, c12⟩ := Cells3.below (w' := wr) (t := t1) (s := s1) (k := k1) hc1 hg1 HWR.out
    have HR := IH.out ks[k] (.agg #[t1, s1, k1]) wr (ItAt.below HWR.out hi1) ((szI_kid HE.out.2).2.2 _ (List.getElem_mem hj1))
    have hne : B ++ txtI n ks[k] = s ++ ((ks.take (k + 1)).map (txtI n)).flatten := by
     rw [HB.out.1, List.take_add_one, List.map_append, List.flatten_append, List.append_assoc]
     simp [hj1]
    have hle2 : (B ++ txtI n ks[k]).length <= 400000000 := by
     have h1 := HLN.out
     rw [hne]
     have h2 := congrArg (fun q => (q.map (txtI n)).flatten.length) (List.take_append_drop (k + 1) ks)
     simp only [List.map_append, List.flatten_append, List.length_append] at h1 h2 |-
     omega
    obtain ⟨T, hT⟩ : ∃ T : List UInt8, txtI n ks[k] = T := ⟨_, rfl⟩
    rw [hT] at HR hne hle2
    have ra := fun W => run_string_add_sum (P := Tryz.prog) W ⟨B.toArray⟩ ⟨T.toArray⟩ (by show B.toArray.size + T.toArray.size <= _; simp at hle2 |-; omega)
    have hcat : (⟨B.toArray⟩ : ByteArray) ++ ⟨T.toArray⟩ = ⟨(B ++ T).toArray⟩ := by
     apply ByteArray.ext
     simp
    have HNE : Hid (B ++ T = s ++ ((ks.take (k + 1)).map (txtI n)).flatten) := hne
    subst hax
    clear hc1 hi1 hg1 hne hle2 hT
    go_wp2_with fail
    refine HR.mono ?_
    rintro e w3 ⟨rfl, hb3⟩
    have H3 : Hid (Below W2.heap.size W2 w3) := HB.out.2.trans (hb3.mono HB.out.2.size)
    clear HR hb3 c10 c11 c12 p1 cT
    go_wp2_with fail
    exact ⟨⟨k + 1, B ++ T, by omega, by rw [<- hcat], by go_num, HNE.out, H3.out⟩, by simp [intOf]; omega⟩
   ·have hlti : ¬ (k : Int) < (l : Int) := by omega
    have HBE : Hid (B = s ++ (ks.map (txtI n)).flatten) := by
     have h1 := HB.out.1
     rw [List.take_of_length_le (by have := HE.out.1; omega)] at h1
     exact h1
    have hBl : B.length <= 400000000 := by have := HLN.out; rw [<- HBE.out] at this; exact this
    obtain ⟨x, hx⟩ : ∃ x : Int, (48 : Int) = x := ⟨_, rfl⟩
    obtain ⟨b, hb⟩ : ∃ b : UInt8, (48 : UInt8) = b := ⟨_, rfl⟩
    have hwt : IntKind.u8.wrap 48 = x := by rw [<- hx]; rfl
    have hcv := conv_at x b (by rw [<- hx, <- hb]; rfl)
    have hssz : (⟨B.toArray⟩ : ByteArray).size = B.length := by show B.toArray.size = _; simp
    have EL := fun W => length_any B.length W (by omega)
    obtain ⟨L, hL⟩ : ∃ L : ByteArray, (⟨(lenB B.length).toArray⟩ : ByteArray) = L := ⟨_, rfl⟩
    rw [hL] at EL
    have HR : Hid ((⟨(txtI (n + 1) (It.mk 48 s ks)).toArray⟩ : ByteArray) = ⟨#[b]⟩ ++ L ++ ⟨B.toArray⟩ /\ L.size <= 10) := by
     have h1 := HT.out.1
     rw [HBD.out, <- HBE.out] at h1
     refine ⟨?_, ?_⟩
     ·rw [h1, <- hL, <- hb]
      apply ByteArray.ext
      simp
     ·rw [<- hL]; show ((lenB B.length).toArray).size <= 10; have := beN_short9 B.length; simpa using this
    have ra := fun W => run_string_add_sum (P := Tryz.prog) W ⟨#[b]⟩ L (by show 1 + L.size <= _; have := HR.out.2; omega)
    have rb := fun W => run_string_add_sum (P := Tryz.prog) W (⟨#[b]⟩ ++ L) ⟨B.toArray⟩ (by rw [ByteArray.size_append, hssz]; show 1 + L.size + B.length <= _; have := HR.out.2; omega)
    have hlt2 : w.heap.size < wr.heap.size := Nat.lt_of_lt_of_le HW2.out.2.1 HB.out.2.size
    have hne2 := Nat.ne_of_lt hlt2
    clear hL hx hb
    go_wp2_with fail
    clear p1
    go_region_with (go_at_call 71; refine (EL _).mono ?_; rintro e w3 ⟨rfl, hb3⟩; have cT3 : w3.cell? ⟨w.heap.size, 0, none⟩ = some (.int .i64 48) := (hb3.cell (p := ⟨w.heap.size, 0, none⟩) (by first | exact hlt2 | (simp; omega))).trans (by first | exact cT | go_keep); have hcar := fun (p : Addr) (h : p.block < _) => hb3.cell (p := p) h; have hB3 := below_via hb3 (by first | exact HWR.out.drew | exact (HWR.out.drew.alloc HWR.out.drew.size _).drew | exact HWR.out.drew.alloc HWR.out.drew.size _ | exact HWR.out); clear hb3)
    all_goals (
     go_wp2_with fail
     go_ret
     exact ⟨by rw [HR.out.1]; rfl, by first | exact hB3 | exact hB3.drew | exact hB3.alloc hB3.size _ | exact hB3.drew.alloc hB3.size _ | exact (hB3.alloc hB3.size _).drew | exact (hB3.drew.alloc hB3.size _).drew⟩)
 ·have h48b : (t == 48) = false := by simpa using h48
  have HBD : Hid (bodyI n (It.mk t s ks) = s) := if_neg h48
  have hwt : IntKind.u8.wrap t = t % 256 := by rw [IntKind.wrap_u8]
  obtain ⟨x, hx⟩ : ∃ x : Int, t % 256 = x := ⟨_, rfl⟩
  obtain ⟨b, hb⟩ := zE (UInt8.ofNat (t % 256).toNat)
  have hxb : x = (b.toNat : Int) := by rw [<- hb, UInt8.toNat_ofNat', <- hx]; omega
  rw [hx] at hwt
  have hcv := conv_at x b hxb
  have hssz : (⟨s.toArray⟩ : ByteArray).size = s.length := by show s.toArray.size = _; simp
  have EL := fun W => length_any s.length W (by have := HT.out.2; have h1 := HT.out.1; rw [h1, HBD.out] at this; simp at this; omega)
  obtain ⟨L, hL⟩ : ∃ L : ByteArray, (⟨(lenB s.length).toArray⟩ : ByteArray) = L := ⟨_, rfl⟩
  rw [hL] at EL
  have HR : Hid ((⟨(txtI (n + 1) (It.mk t s ks)).toArray⟩ : ByteArray) = ⟨#[b]⟩ ++ L ++ ⟨s.toArray⟩ /\ L.size <= 10 /\ s.length <= 400000000) := by
   have h1 := HT.out.1
   have h2 := HT.out.2
   rw [HBD.out] at h1
   rw [h1] at h2
   refine ⟨?_, ?_, ?_⟩
   ·rw [h1, hb, <- hL]
    apply ByteArray.ext
    simp
   ·rw [<- hL]; show ((lenB s.length).toArray).size <= 10; have := beN_short9 s.length; simpa using this
   ·simp at h2; omega
  have ra := fun W => run_string_add_sum (P := Tryz.prog) W ⟨#[b]⟩ L (by show 1 + L.size <= _; have := HR.out.2.1; omega)
  have rb := fun W => run_string_add_sum (P := Tryz.prog) W (⟨#[b]⟩ ++ L) ⟨s.toArray⟩ (by rw [ByteArray.size_append, hssz]; show 1 + L.size + s.length <= _; have := HR.out.2; omega)
  have cT := HW2.out.2.2.1
  go_enter Tryz.func46, Tryz.ntmps46
  go_wp2_with fail
  rw [<- hW2]
  clear hW2 hL hb hx hxb
  have hlt2 := HW2.out.2.1
  have hne2 := Nat.ne_of_lt hlt2
  go_region_with (go_at_call 71; refine (EL _).mono ?_; rintro e w3 ⟨rfl, hb3⟩; have cT3 : w3.cell? ⟨w.heap.size, 0, none⟩ = some (.int .i64 t) := (hb3.cell (p := ⟨w.heap.size, 0, none⟩) (by first | exact hlt2 | (simp; omega))).trans (by first | exact cT | go_keep); have hcar := fun (p : Addr) (h : p.block < _) => hb3.cell (p := p) h; have hB3 := below_via hb3 (by first | exact HW2.out.1.drew | exact (HW2.out.1.drew.alloc HW2.out.1.drew.size _).drew | exact HW2.out.1.drew.alloc HW2.out.1.drew.size _ | exact HW2.out.1); clear hb3)
  all_goals (
   go_wp2_with fail
   go_ret
   exact ⟨by rw [HR.out.1]; rfl, by first | exact hB3 | exact hB3.drew | exact hB3.alloc hB3.size _ | exact hB3.drew.alloc hB3.size _ | exact (hB3.alloc hB3.size _).drew | exact (hB3.drew.alloc hB3.size _).drew⟩)
theorem text_any : ∀ (n : Nat), TextC n
 | 0 => fun _ _ _ h _ => h.elim
 | n + 1 => fun x v w hx hz => by
  obtain ⟨kx, rfl, hkx⟩ := hx
  exact text_step n (text_any n) (It.tag x) (It.text x) (It.kids x) kx w hkx hz
theorem specItemText_any (n : Nat) (x : It n) (v : Value) (w : World) (hx : ItAt w n v x) (hz : szI n x <= 20000000) : Calls Tryz.prog 18 #[v] w fun e w' => e = .returned (.tuple #[.string ⟨((writeI n x).getD []).toArray⟩, .bool (writeI n x).isSome]) /\ Below w.heap.size w w' := by
 obtain ⟨t, s, ao, l, cap, rfl⟩ := hx.parts
 obtain ⟨W2, hW2⟩ : ∃ W, W = w.alloc (Obj.cells #[Value.int IntKind.i64 t, Value.string s, Value.slice ao l cap] 41) := ⟨_, rfl⟩
 have HW := one_laid w (.int .i64 t) (.string s) (.slice ao l cap) 41 W2 hW2
 have HX : Hid (ItAt w n (.agg #[.int .i64 t, .string s, .slice ao l cap]) x /\ szI n x <= 20000000) := ⟨hx, hz⟩
 have E := specItemOk_any n x _ W2 (ItAt.below HW.1 hx) hz
 have HC : Hid (Below w.heap.size w W2 /\ w.heap.size < W2.heap.size /\ Cells3 W2 w.heap.size 0 (.int .i64 t) (.string s) (.slice ao l cap)) := ⟨HW.1, HW.2.1, HW.2.2⟩
 have HN : Hid (writeI n x = if rightI n x 0 = true /\ (txtI n x).length <= 4000 then some (txtI n x) else none) := rfl
 clear hx hz HW
 cases hr : rightI n x 0 with
 | false =>
  rw [hr] at E
  have HR : Hid (writeI n x = none) := by
   show writeI n x = none
   rw [HN.out, hr]
   simp
  clear hr
  go_enter Tryz.func18, Tryz.ntmps18
  go_wp2_with fail
  rw [<- hW2]
  refine E.mono ?_
  rintro e w3 ⟨rfl, hb3⟩
  have H3 : Hid (Below w.heap.size w w3) := HC.out.1.trans (hb3.mono HC.out.1.size)
  clear E hb3 hW2
  go_wp2_with fail
  go_ret2
  exact ⟨by rw [HR.out]; rfl, H3.out⟩
 | true =>
  rw [hr] at E
  have htl := txt_le n x
  have HT : Hid ((txtI n x).length <= 400000000) := by have := HX.out.2; show (txtI n x).length <= 400000000; omega
  have HR : Hid (writeI n x = if (txtI n x).length <= 4000 then some (txtI n x) else none) := by
   show writeI n x = _
   rw [HN.out, hr]
   simp
  clear hr htl
  go_enter Tryz.func18, Tryz.ntmps18
  go_wp2_with fail
  rw [<- hW2]
  refine E.mono ?_
  rintro e w3 ⟨rfl, hb3⟩
  obtain ⟨c0, c1, c2⟩ := HC.out.2.2.below HC.out.2.1 hb3
  have H3 : Hid (Below w.heap.size w w3) := HC.out.1.trans (hb3.mono HC.out.1.size)
  have E2 := text_any n x _ w3 (ItAt.below H3.out HX.out.1) HX.out.2
  obtain ⟨T, hT⟩ := zE (txtI n x)
  rw [hT] at E2 HR HT
  have hsz : (⟨T.toArray⟩ : ByteArray).size = T.length := by show T.toArray.size = _; simp
  clear E hb3 hW2 hT
  go_wp2_with fail
  refine E2.mono ?_
  rintro e w4 ⟨rfl, hb4⟩
  have H4 : Hid (Below w.heap.size w w4) := H3.out.trans (hb4.mono H3.out.size)
  clear E2 hb4 c0 c1 c2
  by_cases hle : T.length <= 4000
  ·have hlei : ¬ (4000 : Int) < (T.length : Int) := by omega
   have HR2 : Hid (writeI n x = some T) := HR.out.trans (if_pos hle)
   go_wp2_with fail
   go_ret2
   exact ⟨by rw [HR2.out]; rfl, H4.out⟩
  ·have hlei : (4000 : Int) < (T.length : Int) := by omega
   have HR2 : Hid (writeI n x = none) := HR.out.trans (if_neg hle)
   go_wp2_with fail
   go_ret2
   exact ⟨by rw [HR2.out]; rfl, H4.out⟩
theorem specTextItem_any (s : ByteArray) (w : World) : Calls Tryz.prog 95 #[.string s] w fun e w' => e = .returned (.agg #[.int .i64 12, .string s, .slice none 0 0]) /\ Below w.heap.size w w' := by
 go_enter Tryz.func95, Tryz.ntmps95
 go_wp2_with fail
 refine bodyPost_ret (v := .agg #[.int .i64 12, .string s, .slice none 0 0]) (by simp [results, Tryz.results95, go_sem]; try rfl) rfl ⟨rfl, ?_⟩
 exact (Below.refl _ _).alloc (Nat.le_refl _) _
def numN (n : Int) : Nat := if 0 <= n /\ n <= 1000000000 then n.toNat else 0
theorem numN_le (n : Int) : numN n <= 1000000000 := by unfold numN; split <;> omega
theorem res_cells {w W2 wr : World} {t : TypeId} (h2 : W2 = w.alloc (Obj.cells #[Value.int IntKind.i64 0, Value.string { data := #[] }, Value.slice none 0 0] t)) (hb : Below W2.heap.size W2 wr) :
  (wr.cell? ⟨w.heap.size, 0, none⟩ = some (.int .i64 0) /\ wr.cell? ⟨w.heap.size, 1, none⟩ = some (.string ⟨#[]⟩) /\ wr.cell? ⟨w.heap.size, 2, none⟩ = some (.slice none 0 0)) /\ (∀ j, wr.frozen? ⟨w.heap.size, j, none⟩ = false) /\ Below w.heap.size w wr := by
 have h := one_laid w (.int .i64 0) (.string ⟨#[]⟩) (.slice none 0 0) t W2 h2
 have hh : wr.heap[w.heap.size]? = some (.cells #[.int .i64 0, .string ⟨#[]⟩, .slice none 0 0] t (0, 0)) := by
  rw [hb.block _ h.2.1, h2]
  exact heap_alloc_new w _
 obtain ⟨a, b⟩ := cell_in hh
 exact ⟨a, b, h.1.trans (hb.mono h.1.size)⟩
theorem specIntItem_any (n0 : Int) (w : World) (h64 : -9223372036854775808 <= n0 /\ n0 <= 9223372036854775807) : Calls Tryz.prog 20 #[.int .i64 n0] w fun e w' => e = .returned (.agg #[.int .i64 2, .string ⟨(intT (numN n0)).toArray⟩, .slice none 0 0]) /\ Below w.heap.size w w' := by
 by_cases hin : 0 <= n0 /\ n0 <= 1000000000
 ·obtain ⟨n, rfl⟩ : ∃ n : Nat, n0 = (n : Int) := ⟨n0.toNat, by omega⟩
  have hnn : numN (n : Int) = n := by unfold numN; rw [if_pos hin]; omega
  have hbl := beN_len 9 n
  rw [hnn]
  clear hnn
  go_enter Tryz.func20, Tryz.ntmps20
  go_wp2_with fail
  refine (in_yes (n : Int) 0 1000000000 _ (by omega) (by omega)).mono ?_
  rintro e w' ⟨rfl, rfl⟩
  go_wp2_with fail
  obtain ⟨W2, hW2⟩ : ∃ W, W = w.alloc (Obj.cells #[Value.int IntKind.i64 0, Value.string { data := #[] }, Value.slice none 0 0] 41) := ⟨_, rfl⟩
  rw [<- hW2]
  have HW : Hid (W2 = w.alloc (Obj.cells #[Value.int IntKind.i64 0, Value.string { data := #[] }, Value.slice none 0 0] 41)) := hW2
  clear hW2
  go_loopw [3, 0] (fun sv kv wr => ∃ (m : Nat) (ds : List UInt8), m <= n /\ kv = .int .i64 (m : Int) /\ sv = .string ⟨ds.toArray⟩ /\ Hid (∃ f, m < 256 ^ f /\ beN f m ++ ds = beN 9 n) /\ Hid (Below W2.heap.size W2 wr)) (fun _ kv _ => (intOf kv).toNat)
  case atStart => exact ⟨n, [], Nat.le_refl _, rfl, rfl, ⟨9, by omega, by simp⟩, Below.refl _ _⟩
  case round =>
   obtain ⟨m, ds, hm, rfl, rfl, HD, HB⟩ := hrel
   have hdl : ds.length <= 9 := by
    obtain ⟨f, _, hf⟩ := HD.out
    have := congrArg List.length hf
    rw [List.length_append] at this
    omega
   by_cases hm0 : m = 0
   ·subst hm0
    have HF : Hid (ds = beN 9 n) := by
     obtain ⟨f, _, hf⟩ := HD.out
     rw [beN_nil, List.nil_append] at hf
     exact hf
    obtain ⟨⟨c0, c1, c2⟩, fz, hbw⟩ := res_cells HW.out HB.out
    have HBW : Hid (Below w.heap.size w wr) := hbw
    clear hbw
    cases ds with
    | nil =>
     have HR : Hid (intT n = [0]) := by
      show intT n = [0]
      unfold intT
      rw [<- HF.out]
      decide
     go_wp2_with fail
     refine bodyPost_ret (v := .agg #[.int .i64 2, .string ⟨#[0]⟩, .slice none 0 0]) (by simp [results, Tryz.results20, go_sem, c0, c1, c2]; try rfl) rfl ⟨by rw [HR.out], ?_⟩
     exact ((HBW.out.setCell (p := ⟨w.heap.size, 0, none⟩) (Nat.le_refl _) _).setCell (p := ⟨w.heap.size, 1, none⟩) (Nat.le_refl _) _).setCell (p := ⟨w.heap.size, 2, none⟩) (Nat.le_refl _) _
    | cons b r =>
     have hg0 : ∀ h, (⟨(b :: r).toArray⟩ : ByteArray)[0]'h = b := fun h => rfl
     have hcat : (⟨#[0]⟩ : ByteArray) ++ ⟨(b :: r).toArray⟩ = ⟨(0 :: b :: r).toArray⟩ := by apply ByteArray.ext; simp
     by_cases hb : 128 <= b.toNat
     ·have hbi : (128 : Int) <= (b.toNat : Int) := by omega
      have HR : Hid (intT n = 0 :: b :: r) := by
       show intT n = 0 :: b :: r
       unfold intT
       rw [<- HF.out, if_pos (.inr (UInt8.le_iff_toNat_le.2 hb))]
      have ra := fun W => run_string_add_sum (P := Tryz.prog) W ⟨#[0]⟩ ⟨(b :: r).toArray⟩ (by show 1 + (b :: r).toArray.size <= _; simp at hdl |-; omega)
      go_wp2_with fail
      refine bodyPost_ret (v := .agg #[.int .i64 2, .string ⟨(0 :: b :: r).toArray⟩, .slice none 0 0]) (by simp [results, Tryz.results20, go_sem, c0, c1, c2]; try rfl) rfl ⟨by rw [HR.out], ?_⟩
      exact ((HBW.out.setCell (p := ⟨w.heap.size, 0, none⟩) (Nat.le_refl _) _).setCell (p := ⟨w.heap.size, 1, none⟩) (Nat.le_refl _) _).setCell (p := ⟨w.heap.size, 2, none⟩) (Nat.le_refl _) _
     ·have hbi : ¬ (128 : Int) <= (b.toNat : Int) := by omega
      have HR : Hid (intT n = b :: r) := by
       show intT n = b :: r
       unfold intT
       rw [<- HF.out, if_neg]
       intro h
       rcases h with h | h
       ·simp at h
       ·exact hb (UInt8.le_iff_toNat_le.1 h)
      go_wp2_with fail
      refine bodyPost_ret (v := .agg #[.int .i64 2, .string ⟨(b :: r).toArray⟩, .slice none 0 0]) (by simp [results, Tryz.results20, go_sem, c0, c1, c2]; try rfl) rfl ⟨by rw [HR.out], ?_⟩
      exact ((HBW.out.setCell (p := ⟨w.heap.size, 0, none⟩) (Nat.le_refl _) _).setCell (p := ⟨w.heap.size, 1, none⟩) (Nat.le_refl _) _).setCell (p := ⟨w.heap.size, 2, none⟩) (Nat.le_refl _) _
   ·have hmp : (0 : Int) < (m : Int) := by omega
    have hcv := conv_byte ((m : Int) % 256) (UInt8.ofNat (m % 256)) (by rw [UInt8.toNat_ofNat']; omega)
    have HS : Hid (∃ g, m / 256 < 256 ^ g /\ beN g (m / 256) ++ (UInt8.ofNat (m % 256) :: ds) = beN 9 n) := by
     obtain ⟨f, h1, h2⟩ := HD.out
     exact beN_step h2 hm0 h1
    go_wp2_with fail
    go_roundw
    case rel => exact ⟨m / 256, UInt8.ofNat (m % 256) :: ds, by omega, by go_num, by rw [cat_oneM], HS.out, HB.out.alloc HB.out.size _⟩
    case measure => simp [intOf]; omega
 ·have hnn : numN n0 = 0 := by unfold numN; rw [if_neg hin]
  have HR : Hid (intT (numN n0) = [0]) := by show intT (numN n0) = [0]; rw [hnn]; decide
  clear hnn
  go_enter Tryz.func20, Tryz.ntmps20
  go_wp2_with fail
  refine (in_no n0 0 1000000000 _ (by omega)).mono ?_
  rintro e w' ⟨rfl, rfl⟩
  go_wp2_with fail
  obtain ⟨W2, hW2⟩ : ∃ W, W = w.alloc (Obj.cells #[Value.int IntKind.i64 0, Value.string { data := #[] }, Value.slice none 0 0] 41) := ⟨_, rfl⟩
  rw [<- hW2]
  obtain ⟨⟨c0, c1, c2⟩, fz, hbw⟩ := res_cells hW2 (Below.refl _ _)
  have HBW : Hid (Below w.heap.size w W2) := hbw
  clear hW2 hbw
  go_loopw [3, 0] (fun sv kv wr => kv = .int .i64 0 /\ sv = .string ⟨#[]⟩ /\ wr = W2) (fun _ kv _ => 0)
  case atStart => exact ⟨rfl, rfl, rfl⟩
  case round =>
   obtain ⟨rfl, rfl, rfl⟩ := hrel
   go_wp2_with fail
   refine bodyPost_ret (v := .agg #[.int .i64 2, .string ⟨#[0]⟩, .slice none 0 0]) (by simp [results, Tryz.results20, go_sem, c0, c1, c2]; try rfl) rfl ⟨by rw [HR.out], ?_⟩
   exact ((HBW.out.setCell (p := ⟨w.heap.size, 0, none⟩) (Nat.le_refl _) _).setCell (p := ⟨w.heap.size, 1, none⟩) (Nat.le_refl _) _).setCell (p := ⟨w.heap.size, 2, none⟩) (Nat.le_refl _) _
def inI : (n : Nat) -> It n -> Option Nat
 | 0, _ => none
 | n + 1, x => if It.tag x = 2 /\ rightI (n + 1) x 0 = true /\ valB8 (It.text x) <= 1000000000 then some (valB8 (It.text x)) else none
theorem valB8_take {s : List UInt8} {k : Nat} (h : k < s.length) : valB8 (s.take (k + 1)) = 256 * valB8 (s.take k) + s[k].toNat := by
 rw [<- List.take_append_getElem h, valB8_snoc]
theorem valB8_lt : ∀ (k : Nat) (s : List UInt8), s.length = k -> valB8 s < 256 ^ k := by
 intro k
 induction k with
 | zero => intro s h; rw [List.eq_nil_of_length_eq_zero h]; decide
 | succ k ih =>
  intro s h
  obtain ⟨l, b, rfl⟩ : ∃ l b, s = l ++ [b] := ⟨s.dropLast, s.getLast (fun e => by rw [e] at h; simp at h), (List.dropLast_concat_getLast _).symm⟩
  have h1 := ih l (by simpa using h)
  have h2 := b.toNat_lt
  rw [valB8_snoc, Nat.pow_succ]
  omega
theorem specIntIn_step (n : Nat) (t : Int) (s : List UInt8) (ks : List (It n)) (a : Value) (w : World) (hx : KidsAt w (ItAt w n) a ks) (hz : szI (n + 1) (It.mk t s ks) <= 20000000) :
  Calls Tryz.prog 29 #[.agg #[.int .i64 t, .string ⟨s.toArray⟩, a]] w fun e w' => e = .returned (.tuple #[.int .i64 (((inI (n + 1) (It.mk t s ks)).getD 0 : Nat) : Int), .bool (inI (n + 1) (It.mk t s ks)).isSome]) /\ Below w.heap.size w w' := by
 have hx0 := hx
 obtain ⟨ax, cx, rfl, _⟩ := hx0
 obtain ⟨l, hle⟩ := zE (ks.length)
 rw [hle] at hx |-
 have HX : Hid (ItAt w (n + 1) (.agg #[.int .i64 t, .string ⟨s.toArray⟩, .slice ax l cx]) (It.mk t s ks) /\ szI (n + 1) (It.mk t s ks) <= 20000000) := ⟨⟨_, rfl, hx⟩, hz⟩
 have HN : Hid (inI (n + 1) (It.mk t s ks) = if t = 2 /\ rightI (n + 1) (It.mk t s ks) 0 = true /\ valB8 s <= 1000000000 then some (valB8 s) else none) := rfl
 obtain ⟨W2, hW2⟩ : ∃ W, W = w.alloc (Obj.cells #[Value.int IntKind.i64 t, Value.string { data := s.toArray }, Value.slice ax l cx] 41) := ⟨_, rfl⟩
 have HW := one_laid w (.int .i64 t) (.string ⟨s.toArray⟩) (.slice ax l cx) 41 W2 hW2
 have HC : Hid (Below w.heap.size w W2 /\ w.heap.size < W2.heap.size /\ Cells3 W2 w.heap.size 0 (.int .i64 t) (.string ⟨s.toArray⟩) (.slice ax l cx)) := ⟨HW.1, HW.2.1, HW.2.2⟩
 clear hx hz HW hle
 by_cases h2 : t = 2
 ·subst h2
  have E := specItemOk_any (n + 1) (It.mk 2 s ks) _ W2 (ItAt.below HC.out.1 HX.out.1) HX.out.2
  cases hr : rightI (n + 1) (It.mk 2 s ks) 0 with
  | false =>
   rw [hr] at E
   have HR : Hid (inI (n + 1) (It.mk 2 s ks) = none) := by
    show inI (n + 1) (It.mk 2 s ks) = none
    rw [HN.out, hr]
    simp
   clear hr
   go_enter Tryz.func29, Tryz.ntmps29
   go_wp2_with fail
   rw [<- hW2]
   refine E.mono ?_
   rintro e w3 ⟨rfl, hb3⟩
   have H3 : Hid (Below w.heap.size w w3) := HC.out.1.trans (hb3.mono HC.out.1.size)
   clear E hb3 hW2
   go_wp2_with fail
   go_ret2
   exact ⟨by rw [HR.out]; rfl, H3.out⟩
  | true =>
   rw [hr] at E
   have hpl : plainOk 2 s = true := by
    have h : rightI (n + 1) (It.mk 2 s ks) 0 = (if (2 : Int) ≠ 48 then decide (ks.length = 0) && plainOk 2 s else _) := rfl
    rw [hr, if_pos (by decide)] at h
    have := h.symm
    rw [Bool.and_eq_true] at this
    exact this.2
   have hl5 : s.length <= 5 := by
    unfold plainOk at hpl
    rw [if_neg (by decide), if_pos rfl] at hpl
    simp only [Bool.and_eq_true, decide_eq_true_eq] at hpl
    exact hpl.1.1.2
   have HR : Hid (inI (n + 1) (It.mk 2 s ks) = if valB8 s <= 1000000000 then some (valB8 s) else none) := by
    show inI (n + 1) (It.mk 2 s ks) = _
    rw [HN.out, hr]
    simp
   clear hr hpl
   have hssz : (⟨s.toArray⟩ : ByteArray).size = s.length := by show s.toArray.size = _; simp
   go_enter Tryz.func29, Tryz.ntmps29
   go_wp2_with fail
   rw [<- hW2]
   refine E.mono ?_
   rintro e w3 ⟨rfl, hb3⟩
   obtain ⟨c0, c1, c2⟩ := HC.out.2.2.below HC.out.2.1 hb3
   have H3 : Hid (Below w.heap.size w w3) := HC.out.1.trans (hb3.mono HC.out.1.size)
   clear E hb3 hW2 c0 c2
   rw [show (0 : Nat) + 1 = 1 from rfl] at c1
   go_wp2_with fail
   go_loopw [4, 5] (fun nv iv wr => ∃ (k q : Nat), k <= s.length /\ nv = .int .i64 (q : Int) /\ iv = .int .i64 (k : Int) /\ q < 1099511627776 /\ wr = w3 /\ Hid (q = valB8 (s.take k))) (fun _ iv _ => s.length - (intOf iv).toNat)
   case atStart => exact ⟨0, 0, Nat.zero_le _, rfl, rfl, by omega, rfl, rfl⟩
   case round =>
    obtain ⟨k, q, hk, rfl, rfl, hq, rfl, HQ⟩ := hrel
    by_cases hlt : k < s.length
    ·have hlti : (k : Int) < (s.length : Int) := by omega
     have hk0 : (0 : Int) <= (k : Int) := by omega
     obtain ⟨b, hbk⟩ := zE (s[k])
     have hgk : ∀ h, (⟨s.toArray⟩ : ByteArray)[k]'h = b := fun h => by rw [<- hbk]; rfl
     have hbl := b.toNat_lt
     have hvt := valB8_take hlt
     rw [hbk, <- HQ.out] at hvt
     have hv := valB8_lt (k + 1) (s.take (k + 1)) (by rw [List.length_take]; omega)
     have hpw : (256 : Nat) ^ (k + 1) <= 256 ^ 5 := Nat.pow_le_pow_right (by decide) (by omega)
     rw [hvt] at hv
     have hq2 : 256 * q + b.toNat < 1099511627776 := by
      have : (256 : Nat) ^ 5 = 1099511627776 := by decide
      omega
     have w1 : IntKind.i64.wrap (256 * (q : Int)) = ((256 * q : Nat) : Int) := by rw [IntKind.wrap_i64]; omega
     have w2 : IntKind.i64.wrap (256 * (q : Int) + (b.toNat : Int)) = ((256 * q + b.toNat : Nat) : Int) := by rw [IntKind.wrap_i64]; omega
     have w3' : IntKind.i64.wrap (b.toNat : Int) = (b.toNat : Int) := by rw [IntKind.wrap_i64]; omega
     have HV : Hid (256 * q + b.toNat = valB8 (s.take (k + 1))) := hvt.symm
     clear hbk hvt hv hpw HQ
     go_wp2_with fail
     go_roundw
     case rel => exact ⟨k + 1, 256 * q + b.toNat, by omega, by go_num, by go_num, hq2, by trivial, HV.out⟩
     case measure => simp [intOf]; omega
    ·have hlti : ¬ (k : Int) < (s.length : Int) := by omega
     have HV : Hid (q = valB8 s) := by
      have h := HQ.out
      rw [List.take_of_length_le (by omega)] at h
      exact h
     by_cases hle : q <= 1000000000
     ·have hlei : ¬ (1000000000 : Int) < (q : Int) := by omega
      have HR2 : Hid (inI (n + 1) (It.mk 2 s ks) = some q) := by
       show inI (n + 1) (It.mk 2 s ks) = some q
       rw [HR.out, <- HV.out, if_pos hle]
      go_wp2_with fail
      go_ret2
      exact ⟨by rw [HR2.out]; rfl, H3.out⟩
     ·have hlei : (1000000000 : Int) < (q : Int) := by omega
      have HR2 : Hid (inI (n + 1) (It.mk 2 s ks) = none) := by
       show inI (n + 1) (It.mk 2 s ks) = none
       rw [HR.out, <- HV.out, if_neg hle]
      go_wp2_with fail
      go_ret2
      exact ⟨by rw [HR2.out]; rfl, H3.out⟩
 ·have h2b : (t != 2) = true := by simpa using h2
  have HR : Hid (inI (n + 1) (It.mk t s ks) = none) := by
   show inI (n + 1) (It.mk t s ks) = none
   rw [HN.out, if_neg (fun h => h2 h.1)]
  go_enter Tryz.func29, Tryz.ntmps29
  go_wp2_with fail
  go_ret2
  exact ⟨by rw [HR.out]; rfl, (one_laid w (.int .i64 t) (.string ⟨s.toArray⟩) (.slice ax l cx) 41 _ rfl).1⟩
theorem specIntIn_any : ∀ (n : Nat) (x : It n) (v : Value) (w : World), ItAt w n v x -> szI n x <= 20000000 -> Calls Tryz.prog 29 #[v] w fun e w' => e = .returned (.tuple #[.int .i64 (((inI n x).getD 0 : Nat) : Int), .bool (inI n x).isSome]) /\ Below w.heap.size w w'
 | 0, _, _, _, h, _ => h.elim
 | n + 1, x, v, w, hx, hz => by
  obtain ⟨kx, rfl, hkx⟩ := hx
  exact specIntIn_step n (It.tag x) (It.text x) (It.kids x) kx w hkx hz
def Blk3 (w : World) (g : Nat) (a b c : Value) : Prop := w.heap[g]? = some (.cells #[a, b, c] 41 (0, 0))
theorem Blk3.lt {w : World} {g : Nat} {a b c : Value} (h : Blk3 w g a b c) : g < w.heap.size := by
 rcases Nat.lt_or_ge g w.heap.size with h' | h'
 ·exact h'
 ·unfold Blk3 at h; rw [Array.getElem?_eq_none h'] at h; cases h
theorem Blk3.below {w w' : World} {g : Nat} {a b c : Value} (h : Blk3 w g a b c) (hb : Below w.heap.size w w') : Blk3 w' g a b c := (hb.block g h.lt).trans h
theorem Blk3.grown {w w' : World} {g : Nat} {a b c : Value} {row : Option Nat} (h : Blk3 w g a b c) (hg : w.grownBy w' row) (hne : some g ≠ row) : Blk3 w' g a b c := (hg.block g h.lt hne).trans h
theorem Blk3.other {w : World} {g : Nat} {a b c : Value} (h : Blk3 w g a b c) {p : Addr} (hne : g ≠ p.block) (v : Value) : Blk3 (w.setCell p v) g a b c := (heap_setCell_other _ _ _ _ hne).trans h
theorem Blk3.set {w : World} {g : Nat} {a b c : Value} (h : Blk3 w g a b c) (v : Value) : Blk3 (w.setCell ⟨g, 2, none⟩ v) g a b v := by
 unfold Blk3 at h |-
 rw [heap_setCell_same w g 2 _ _ _ h]
 rfl
theorem two_blk (w : World) (p q r : Value) (x y z : Value) : ∀ W, W = (w.alloc (Obj.cells #[p, q, r] 41)).alloc (Obj.cells #[x, y, z] 41) -> Below w.heap.size w W /\ W.heap.size = w.heap.size + 2 /\ Blk3 W w.heap.size p q r /\ Blk3 W (w.heap.size + 1) x y z := by
 rintro W rfl
 have e : (w.alloc (Obj.cells #[p, q, r] 41)).heap.size = w.heap.size + 1 := Array.size_push _
 refine ⟨((Below.refl _ _).alloc (Nat.le_refl _) _).alloc (by rw [e]; omega) _, ?_, ?_, ?_⟩
 ·rw [show ((w.alloc (Obj.cells #[p, q, r] 41)).alloc (Obj.cells #[x, y, z] 41)).heap.size = (w.alloc (Obj.cells #[p, q, r] 41)).heap.size + 1 from Array.size_push _, e]
 ·show ((w.heap.push (Obj.cells #[p, q, r] 41)).push (Obj.cells #[x, y, z] 41))[w.heap.size]? = _
  rw [Array.getElem?_push, if_neg (by rw [Array.size_push]; omega), Array.getElem?_push, if_pos rfl]
 ·have h := heap_alloc_new (w.alloc (Obj.cells #[p, q, r] 41)) (Obj.cells #[x, y, z] 41)
  rw [e] at h
  exact h
theorem GrowK.out {w w' : World} {base n : Nat} {v : Value} {ks : List (It (n + 1))} (h : GrowK w base n v ks) (he : ∀ b, base <= b -> w'.heap[b]? = w.heap[b]?) : GrowK w' base n v ks := by
 obtain ⟨kvs, fps, h1, h2, ho, h3, h4, h5⟩ := h
 refine ⟨kvs, fps, h1, h2, ⟨ho.1, ?_⟩, h3, h4, fun j a b c => ?_⟩
 ·rcases ho.2 with hn | ⟨g, cap, cur, hv, hb, hg, rest⟩
  ·exact .inl hn
  ·exact .inr ⟨g, cap, cur, hv, hb, by rw [he g hb]; exact hg, rest⟩
 ·have := h5 j a b c
  exact this.same fun x hx => he x (OwnK.lt this x hx).1
end Go.Proofs.YthbdgdfanpbkeaaGreat
