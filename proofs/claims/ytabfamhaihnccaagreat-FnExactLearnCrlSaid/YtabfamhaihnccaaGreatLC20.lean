/-
  Texts of the proof.
-/
import Derived.Test.YtabfamhaihnccaaGreatLC17
set_option linter.unusedVariables false
set_option linter.unusedSimpArgs false
set_option maxRecDepth 100000
set_option maxHeartbeats 25600000
namespace Go.Proofs.YtabfamhaihnccaaGreat
open Go.RowKit Der
theorem conv_byte (x : Int) (b : UInt8) (hx : x = (b.toNat : Int)) (W : World) : (convert 201 9 (zS (some ⟨W.heap.size, 0, none⟩) 1 1)).run Tryz.prog (W.alloc (.cells #[.int .u8 x] 5)) = .ok (zG ⟨#[b]⟩) (W.alloc (.cells #[.int .u8 x] 5)) := by
 have ho := World.ownsRow_lit (base := W.heap.size) (e := 5) (size := 1) W #[.int .u8 x] 1 (Nat.le_refl _) (by decide) rfl;have e : (#[Value.int .u8 x]).toList = [b].map cellB := by
  subst hx;rfl
 rw [e] at ho;exact conv_own ho
theorem conv_at (x : Int) (b : UInt8) (hx : x = (b.toNat : Int)) (W : World) (g : Nat) (h : W.cell? ⟨g, 0, none⟩ = some (.int .u8 x)) : (convert 201 9 (zS (some ⟨g, 0, none⟩) 1 1)).run Tryz.prog W = .ok (zG ⟨#[b]⟩) W := by
 exact run_convert_bytes_back _ 201 9 5 ⟨g, 0, none⟩ 1 [b] Tryz.underlying201 Tryz.underlying5 Tryz.underlying9 (by
  subst hx;intro j hj;have e : j = 0 := by simpa using hj
  subst e;exact h)
theorem below_via {a X c : World} (hb : zW X c) (h : zW a X) : zW a c := h.trans (hb.mono h.size)
theorem beN_step {f m : Nat} {ds r : List UInt8} (h : beN f m ++ ds = r) (hm : m ≠ 0) (hf : m < 256 ^ f) : ∃ g, m / 256 < 256 ^ g /\ beN g (m / 256) ++ (UInt8.ofNat (m % 256) :: ds) = r := by
 cases f with
 | zero => simp at hf; omega
 | succ f =>
  refine ⟨f, by rw [Nat.pow_succ] at hf; omega, ?_⟩;rw [<- h]
  conv => rhs; unfold beN
  rw [if_neg hm];simp
theorem beN_nil (f : Nat) : beN f 0 = [] := by cases f <;> simp [beN]
theorem length_any (n : Nat) (w : World) (hn : n <= 1000000000) : Calls Tryz.prog 188 #[zI (n : Int)] w fun e w' => e = .returned (zG ⟨(lenB n).toArray⟩) /\ zW w w' := by
 by_cases h128 : n < 128
 ·have h128i : (n : Int) < 128 := by omega
  have HN : Hid (lenB n = [UInt8.ofNat n]) := if_pos h128;have hcv := conv_byte (n : Int) (UInt8.ofNat n) (by rw [UInt8.toNat_ofNat']; omega);go_enter Tryz.func188, Tryz.ntmps188;go_wp2_with fail;go_ret;exact ⟨by rw [HN.out]; rfl, (Below.refl _ _).alloc (Nat.le_refl _) _⟩
 ·have h128i : ¬ (n : Int) < 128 := by omega
  have HN : Hid (lenB n = UInt8.ofNat (128 + (beN 9 n).length) :: beN 9 n) := if_neg h128;have hbl := beN_len 9 n;go_enter Tryz.func188, Tryz.ntmps188;go_wp2_with fail
  go_loopw [3, 0] (fun sv kv wr => ∃ (m : Nat) (ds : List UInt8), m <= n /\ kv = zI (m : Int) /\ sv = zG ⟨ds.toArray⟩ /\ Hid (∃ f, m < 256 ^ f /\ beN f m ++ ds = beN 9 n) /\ zW w wr) (fun _ kv _ => (intOf kv).toNat)
  case atStart => exact ⟨n, [], Nat.le_refl _, rfl, rfl, ⟨9, by omega, by simp⟩, Below.refl _ _⟩
  case round =>
   obtain ⟨m, ds, hm, rfl, rfl, HD, hbel⟩ := hrel;have hdl : ds.length <= 9 := by
    obtain ⟨f, _, hf⟩ := HD.out;have := congrArg List.length hf;rw [List.length_append] at this;omega
   by_cases hm0 : m = 0
   ·subst hm0
    have HF : Hid (ds = beN 9 n) := by
     obtain ⟨f, _, hf⟩ := HD.out;rw [beN_nil, List.nil_append] at hf;exact hf
    have hsz : (⟨ds.toArray⟩ : ByteArray).size = ds.length := by show ds.toArray.size = _; simp
    obtain ⟨b, hb⟩ := zE (UInt8.ofNat (128 + ds.length));have hcv := conv_byte (128 + (ds.length : Int)) b (by rw [<- hb, UInt8.toNat_ofNat']; omega);have HR : Hid ((⟨(lenB n).toArray⟩ : ByteArray) = ⟨#[b]⟩ ++ ⟨ds.toArray⟩) := by
     show (⟨(lenB n).toArray⟩ : ByteArray) = ⟨#[b]⟩ ++ ⟨ds.toArray⟩;rw [HN.out, <- HF.out, hb, cat_oneM]
    clear hb;go_wp2_with fail;go_ret;exact ⟨by rw [HR.out]; rfl, hbel.alloc hbel.size _⟩
   ·have hmp : (0 : Int) < (m : Int) := by omega
    have hcv := conv_byte ((m : Int) % 256) (UInt8.ofNat (m % 256)) (by rw [UInt8.toNat_ofNat']; omega);have HS : Hid (∃ g, m / 256 < 256 ^ g /\ beN g (m / 256) ++ (UInt8.ofNat (m % 256) :: ds) = beN 9 n) := by
     obtain ⟨f, h1, h2⟩ := HD.out;exact beN_step h2 hm0 h1
    go_wp2_with fail
    go_roundw
    case rel => exact ⟨m / 256, UInt8.ofNat (m % 256) :: ds, by omega, by go_num, by rw [cat_oneM], HS.out, hbel.alloc hbel.size _⟩
    case measure => simp [intOf]; omega
def bodyI (n : Nat) (x : It (n + 1)) : List UInt8 := if It.tag x = 48 then It.text x ++ ((It.kids x).map (txtI n)).flatten else It.text x
theorem txtI_body {n : Nat} (x : It (n + 1)) : txtI (n + 1) x = UInt8.ofNat ((It.tag x) % 256).toNat :: (lenB (bodyI n x).length ++ bodyI n x) := rfl
theorem beN_short9 (n : Nat) : (lenB n).length <= 10 := by
 unfold lenB;have := beN_len 9 n
 split
 ·simp
 ·simp; omega
theorem txt_le : ∀ (n : Nat) (x : It n), (txtI n x).length <= 11 + 12 * szI n x
 | 0, x => (x : Empty).elim
 | n + 1, x => by
  have hk : ∀ ks : List (It n), ((ks.map (txtI n)).flatten).length <= 11 * ks.length + 12 * (ks.map (szI n)).sum := by
   intro ks
   induction ks with
   | nil => simp
   | cons y r ih =>
    have := txt_le n y;simp only [List.map_cons, List.flatten_cons, List.length_append, List.length_cons, List.sum_cons];omega
  have h1 := hk (It.kids x);have h2 := beN_short9 (bodyI n x).length;have h3 : (bodyI n x).length <= (It.text x).length + 11 * (It.kids x).length + 12 * ((It.kids x).map (szI n)).sum := by
   unfold bodyI
   split
   ·rw [List.length_append]; omega
   ·omega
  rw [txtI_body];simp only [List.length_cons, List.length_append];show _ <= 11 + 12 * ((It.text x).length + (It.kids x).length + ((It.kids x).map (szI n)).sum);omega
def TextC (n : Nat) : Prop := ∀ (x : It n) (v : Value) (w : World), ItAt w n v x -> szI n x <= 20000000 -> Calls Tryz.prog 153 #[v] w fun e w' => e = .returned (zG ⟨(txtI n x).toArray⟩) /\ zW w w'
theorem text_step (n : Nat) (IH : Hid (TextC n)) (t : Int) (s : List UInt8) (ks : List (It n)) (a : Value) (w : World) (hx : KidsAt w (ItAt w n) a ks) (hz : szI (n + 1) (It.mk t s ks) <= 20000000) :
  Calls Tryz.prog 153 #[.agg #[zI t, zG ⟨s.toArray⟩, a]] w fun e w' => e = .returned (zG ⟨(txtI (n + 1) (It.mk t s ks)).toArray⟩) /\ zW w w' := by
 have hx0 := hx;obtain ⟨ax, cx, rfl, _⟩ := hx0;have hsz := szI_kid hz;have htl := txt_le (n + 1) (It.mk t s ks);obtain ⟨l, hle⟩ := zE (ks.length);have HE : Hid (ks.length = l /\ szI (n + 1) (It.mk t s ks) <= 20000000) := ⟨hle, hz⟩;have hlb : l <= 20000000 := by rw [<- hle]; exact hsz.2.1
 rw [hle] at hx |-;have HX : Hid (KidsAt w (ItAt w n) (zS ax l cx) ks) := hx;obtain ⟨W2, hW2⟩ : ∃ W, W = w.alloc (Obj.cells #[Value.int IntKind.i64 t, Value.string { data := s.toArray }, Value.slice ax l cx] 178) := ⟨_, rfl⟩;have HW := one_laid w (zI t) (zG ⟨s.toArray⟩) (zS ax l cx) 178 W2 hW2;have HW2 : Hid (zW w W2 /\ w.heap.size < W2.heap.size /\ W2.cell? ⟨w.heap.size, 0, none⟩ = some (zI t) /\ W2.cell? ⟨w.heap.size, 2, none⟩ = some (zS ax l cx)) := ⟨HW.1, HW.2.1, HW.2.2.1, HW.2.2.2.2⟩;have HT : Hid (txtI (n + 1) (It.mk t s ks) = UInt8.ofNat (t % 256).toNat :: (lenB (bodyI n (It.mk t s ks)).length ++ bodyI n (It.mk t s ks)) /\ (txtI (n + 1) (It.mk t s ks)).length <= 400000000) := ⟨txtI_body _, by omega⟩;clear hx hz hle hsz htl HW;by_cases h48 : t = 48
 ·subst h48
  have HBD : Hid (bodyI n (It.mk 48 s ks) = s ++ (ks.map (txtI n)).flatten) := if_pos rfl;have HLN : Hid ((s ++ (ks.map (txtI n)).flatten).length <= 400000000) := by
   have h1 := HT.1;have h2 := HT.2;rw [h1, HBD.out] at h2;simp only [List.length_cons, List.length_append] at h2 |-;show s.length + _ <= _;omega
  go_enter Tryz.func153, Tryz.ntmps153;go_wp2_with fail;rw [<- hW2];clear hW2
  go_loopw [3, 4] (fun sv iv wr => ∃ (k : Nat) (B : List UInt8), k <= l /\ sv = zG ⟨B.toArray⟩ /\ iv = zI (k : Int) /\ Hid (B = s ++ ((ks.take k).map (txtI n)).flatten /\ zW W2 wr)) (fun _ iv _ => l - (intOf iv).toNat)
  case atStart => exact ⟨0, s, Nat.zero_le _, rfl, rfl, by simp, Below.refl _ _⟩
  case round =>
   obtain ⟨k, B, hk, rfl, rfl, HB⟩ := hrel;have p1 : wr.cell? ⟨w.heap.size, 2, none⟩ = some (zS ax l cx) := (HB.2.cell (p := ⟨w.heap.size, 2, none⟩) HW2.2.1).trans HW2.2.2.2;have cT : wr.cell? ⟨w.heap.size, 0, none⟩ = some (zI 48) := (HB.2.cell (p := ⟨w.heap.size, 0, none⟩) HW2.2.1).trans HW2.2.2.1;have HWR : Hid (zW w wr) := HW2.1.trans (HB.2.mono HW2.1.size);by_cases hlt : k < l
   ·have hlti : (k : Int) < (l : Int) := by omega
    have hk0 : (0 : Int) <= (k : Int) := by omega
    have hj1 : k < ks.length := by rw [HE.1]; exact hlt
    obtain ⟨g1, o1, t1, s1, k1, hax, hg1, hc1, hi1⟩ := HX.out.get hj1;obtain ⟨c10, c11, c12⟩ := Cells3.below (w' := wr) (t := t1) (s := s1) (k := k1) hc1 hg1 HWR.out;have HR := IH.out ks[k] (.agg #[t1, s1, k1]) wr (ItAt.below HWR.out hi1) ((szI_kid HE.2).2.2 _ (List.getElem_mem hj1));have hne : B ++ txtI n ks[k] = s ++ ((ks.take (k + 1)).map (txtI n)).flatten := by
     rw [HB.1, List.take_add_one, List.map_append, List.flatten_append, List.append_assoc];simp [hj1]
    have hle2 : (B ++ txtI n ks[k]).length <= 400000000 := by
     have h1 := HLN.out;rw [hne];have h2 := congrArg (fun q => (q.map (txtI n)).flatten.length) (List.take_append_drop (k + 1) ks);simp only [List.map_append, List.flatten_append, List.length_append] at h1 h2 |-;omega
    obtain ⟨T, hT⟩ : ∃ T : List UInt8, txtI n ks[k] = T := ⟨_, rfl⟩;rw [hT] at HR hne hle2;have ra := fun W => run_string_add_sum (P := Tryz.prog) W ⟨B.toArray⟩ ⟨T.toArray⟩ (by show B.toArray.size + T.toArray.size <= _; simp at hle2 |-; omega)
    have hcat : (⟨B.toArray⟩ : ByteArray) ++ ⟨T.toArray⟩ = ⟨(B ++ T).toArray⟩ := by
     apply ByteArray.ext;simp
    have HNE : Hid (B ++ T = s ++ ((ks.take (k + 1)).map (txtI n)).flatten) := hne;subst hax;clear hc1 hi1 hg1 hne hle2 hT;go_wp2_with fail;refine HR.mono ?_;rintro e w3 ⟨rfl, hb3⟩;have H3 : Hid (zW W2 w3) := HB.2.trans (hb3.mono HB.2.size);clear HR hb3 c10 c11 c12 p1 cT;go_wp2_with fail;exact ⟨⟨k + 1, B ++ T, by omega, by rw [<- hcat], by go_num, HNE.out, H3.out⟩, by simp [intOf]; omega⟩
   ·have hlti : ¬ (k : Int) < (l : Int) := by omega
    have HBE : Hid (B = s ++ (ks.map (txtI n)).flatten) := by
     have h1 := HB.1;rw [List.take_of_length_le (by have := HE.1; omega)] at h1;exact h1
    have hBl : B.length <= 400000000 := by have := HLN.out; rw [<- HBE.out] at this; exact this
    obtain ⟨x, hx⟩ : ∃ x : Int, (48 : Int) = x := ⟨_, rfl⟩;obtain ⟨b, hb⟩ : ∃ b : UInt8, (48 : UInt8) = b := ⟨_, rfl⟩;have hwt : IntKind.u8.wrap 48 = x := by rw [<- hx]; rfl
    have hcv := conv_at x b (by rw [<- hx, <- hb]; rfl);have hssz : (⟨B.toArray⟩ : ByteArray).size = B.length := by show B.toArray.size = _; simp
    have EL := fun W => length_any B.length W (by omega)
    obtain ⟨L, hL⟩ : ∃ L : ByteArray, (⟨(lenB B.length).toArray⟩ : ByteArray) = L := ⟨_, rfl⟩;rw [hL] at EL;have HR : Hid ((⟨(txtI (n + 1) (It.mk 48 s ks)).toArray⟩ : ByteArray) = ⟨#[b]⟩ ++ L ++ ⟨B.toArray⟩ /\ L.size <= 10) := by
     have h1 := HT.1;rw [HBD.out, <- HBE.out] at h1;refine ⟨?_, ?_⟩
     ·rw [h1, <- hL, <- hb]
      apply ByteArray.ext;simp
     ·rw [<- hL]; show ((lenB B.length).toArray).size <= 10; have := beN_short9 B.length; simpa using this
    have ra := fun W => run_string_add_sum (P := Tryz.prog) W ⟨#[b]⟩ L (by show 1 + L.size <= _; have := HR.2; omega)
    have rb := fun W => run_string_add_sum (P := Tryz.prog) W (⟨#[b]⟩ ++ L) ⟨B.toArray⟩ (by rw [ByteArray.size_append, hssz]; show 1 + L.size + B.length <= _; have := HR.2; omega)
    have hlt2 : w.heap.size < wr.heap.size := Nat.lt_of_lt_of_le HW2.2.1 HB.2.size;have hne2 := Nat.ne_of_lt hlt2;clear hL hx hb;go_wp2_with fail;clear p1
    go_region_with (go_at_call 188; refine (EL _).mono ?_; rintro e w3 ⟨rfl, hb3⟩; have cT3 : w3.cell? ⟨w.heap.size, 0, none⟩ = some (zI 48) := (hb3.cell (p := ⟨w.heap.size, 0, none⟩) (by first | exact hlt2 | (simp; omega))).trans (by first | exact cT | go_keep); have hcar := fun (p : Addr) (h : p.block < _) => hb3.cell (p := p) h; have hB3 := below_via hb3 (by first | exact HWR.out.drew | exact (HWR.out.drew.alloc HWR.out.drew.size _).drew | exact HWR.out.drew.alloc HWR.out.drew.size _ | exact HWR.out); clear hb3)
    all_goals (
     go_wp2_with fail;go_ret;exact ⟨by rw [HR.1]; rfl, by first | exact hB3 | exact hB3.drew | exact hB3.alloc hB3.size _ | exact hB3.drew.alloc hB3.size _ | exact (hB3.alloc hB3.size _).drew | exact (hB3.drew.alloc hB3.size _).drew⟩)
 ·have h48b : (t == 48) = false := by simpa using h48
  have HBD : Hid (bodyI n (It.mk t s ks) = s) := if_neg h48;have hwt : IntKind.u8.wrap t = t % 256 := by rw [IntKind.wrap_u8]
  obtain ⟨x, hx⟩ : ∃ x : Int, t % 256 = x := ⟨_, rfl⟩;obtain ⟨b, hb⟩ := zE (UInt8.ofNat (t % 256).toNat);have hxb : x = (b.toNat : Int) := by rw [<- hb, UInt8.toNat_ofNat', <- hx]; omega
  rw [hx] at hwt;have hcv := conv_at x b hxb;have hssz : (⟨s.toArray⟩ : ByteArray).size = s.length := by show s.toArray.size = _; simp
  have EL := fun W => length_any s.length W (by have := HT.2; have h1 := HT.1; rw [h1, HBD.out] at this; simp at this; omega)
  obtain ⟨L, hL⟩ : ∃ L : ByteArray, (⟨(lenB s.length).toArray⟩ : ByteArray) = L := ⟨_, rfl⟩;rw [hL] at EL;have HR : Hid ((⟨(txtI (n + 1) (It.mk t s ks)).toArray⟩ : ByteArray) = ⟨#[b]⟩ ++ L ++ ⟨s.toArray⟩ /\ L.size <= 10 /\ s.length <= 400000000) := by
   have h1 := HT.1;have h2 := HT.2;rw [HBD.out] at h1;rw [h1] at h2;refine ⟨?_, ?_, ?_⟩
   ·rw [h1, hb, <- hL]
    apply ByteArray.ext;simp
   ·rw [<- hL]; show ((lenB s.length).toArray).size <= 10; have := beN_short9 s.length; simpa using this
   ·simp at h2; omega
  have ra := fun W => run_string_add_sum (P := Tryz.prog) W ⟨#[b]⟩ L (by show 1 + L.size <= _; have := HR.2.1; omega)
  have rb := fun W => run_string_add_sum (P := Tryz.prog) W (⟨#[b]⟩ ++ L) ⟨s.toArray⟩ (by rw [ByteArray.size_append, hssz]; show 1 + L.size + s.length <= _; have := HR.2; omega)
  have cT := HW2.2.2.1;go_enter Tryz.func153, Tryz.ntmps153;go_wp2_with fail;rw [<- hW2];clear hW2 hL hb hx hxb;have hlt2 := HW2.2.1;have hne2 := Nat.ne_of_lt hlt2
  go_region_with (go_at_call 188; refine (EL _).mono ?_; rintro e w3 ⟨rfl, hb3⟩; have cT3 : w3.cell? ⟨w.heap.size, 0, none⟩ = some (zI t) := (hb3.cell (p := ⟨w.heap.size, 0, none⟩) (by first | exact hlt2 | (simp; omega))).trans (by first | exact cT | go_keep); have hcar := fun (p : Addr) (h : p.block < _) => hb3.cell (p := p) h; have hB3 := below_via hb3 (by first | exact HW2.1.drew | exact (HW2.1.drew.alloc HW2.1.drew.size _).drew | exact HW2.1.drew.alloc HW2.1.drew.size _ | exact HW2.1); clear hb3)
  all_goals (
   go_wp2_with fail;go_ret;exact ⟨by rw [HR.1]; rfl, by first | exact hB3 | exact hB3.drew | exact hB3.alloc hB3.size _ | exact hB3.drew.alloc hB3.size _ | exact (hB3.alloc hB3.size _).drew | exact (hB3.drew.alloc hB3.size _).drew⟩)
theorem text_any : ∀ (n : Nat), TextC n
 | 0 => fun _ _ _ h _ => h.elim
 | n + 1 => fun x v w hx hz => by
  obtain ⟨kx, rfl, hkx⟩ := hx;exact text_step n (text_any n) (It.tag x) (It.text x) (It.kids x) kx w hkx hz
theorem specItemText_any (n : Nat) (x : It n) (v : Value) (w : World) (hx : ItAt w n v x) (hz : szI n x <= 20000000) : Calls Tryz.prog 119 #[v] w fun e w' => e = .returned (.tuple #[zG ⟨((writeI n x).getD []).toArray⟩, .bool (writeI n x).isSome]) /\ zW w w' := by
 obtain ⟨t, s, ao, l, cap, rfl⟩ := hx.parts;obtain ⟨W2, hW2⟩ : ∃ W, W = w.alloc (Obj.cells #[Value.int IntKind.i64 t, Value.string s, Value.slice ao l cap] 178) := ⟨_, rfl⟩;have HW := one_laid w (zI t) (zG s) (zS ao l cap) 178 W2 hW2;have HX : Hid (ItAt w n (.agg #[zI t, zG s, zS ao l cap]) x /\ szI n x <= 20000000) := ⟨hx, hz⟩;have E := specItemOk_any n x _ W2 (ItAt.below HW.1 hx) hz;have HC : Hid (zW w W2 /\ w.heap.size < W2.heap.size /\ Cells3 W2 w.heap.size 0 (zI t) (zG s) (zS ao l cap)) := ⟨HW.1, HW.2.1, HW.2.2⟩;have HN : Hid (writeI n x = if rightI n x 0 = true /\ (txtI n x).length <= 4000 then some (txtI n x) else none) := rfl;clear hx hz HW
 cases hr : rightI n x 0 with
 | false =>
  rw [hr] at E;have HR : Hid (writeI n x = none) := by
   show writeI n x = none;rw [HN.out, hr];simp
  clear hr;go_enter Tryz.func119, Tryz.ntmps119;go_wp2_with fail;rw [<- hW2];refine E.mono ?_;rintro e w3 ⟨rfl, hb3⟩;have H3 : Hid (zW w w3) := HC.1.trans (hb3.mono HC.1.size);clear E hb3 hW2;go_wp2_with fail
  go_ret2
  exact ⟨by rw [HR.out]; rfl, H3.out⟩
 | true =>
  rw [hr] at E;have htl := txt_le n x;have HT : Hid ((txtI n x).length <= 400000000) := by have := HX.2; show (txtI n x).length <= 400000000; omega
  have HR : Hid (writeI n x = if (txtI n x).length <= 4000 then some (txtI n x) else none) := by
   show writeI n x = _;rw [HN.out, hr];simp
  clear hr htl;go_enter Tryz.func119, Tryz.ntmps119;go_wp2_with fail;rw [<- hW2];refine E.mono ?_;rintro e w3 ⟨rfl, hb3⟩;obtain ⟨c0, c1, c2⟩ := HC.2.2.below HC.2.1 hb3;have H3 : Hid (zW w w3) := HC.1.trans (hb3.mono HC.1.size);have E2 := text_any n x _ w3 (ItAt.below H3.out HX.1) HX.2;obtain ⟨T, hT⟩ := zE (txtI n x);rw [hT] at E2 HR HT;have hsz : (⟨T.toArray⟩ : ByteArray).size = T.length := by show T.toArray.size = _; simp
  clear E hb3 hW2 hT;go_wp2_with fail;refine E2.mono ?_;rintro e w4 ⟨rfl, hb4⟩;have H4 : Hid (zW w w4) := H3.trans (hb4.mono H3.size);clear E2 hb4 c0 c1 c2;by_cases hle : T.length <= 4000
  ·have hlei : ¬ (4000 : Int) < (T.length : Int) := by omega
   have HR2 : Hid (writeI n x = some T) := HR.trans (if_pos hle);go_wp2_with fail
   go_ret2
   exact ⟨by rw [HR2.out]; rfl, H4.out⟩
  ·have hlei : (4000 : Int) < (T.length : Int) := by omega
   have HR2 : Hid (writeI n x = none) := HR.trans (if_neg hle);go_wp2_with fail
   go_ret2
   exact ⟨by rw [HR2.out]; rfl, H4.out⟩
theorem specTextItem_any (s : ByteArray) (w : World) : Calls Tryz.prog 155 #[zG s] w fun e w' => e = .returned (.agg #[zI 12, zG s, zZ]) /\ zW w w' := by
 go_enter Tryz.func155, Tryz.ntmps155;go_wp2_with fail;refine bodyPost_ret (v := .agg #[zI 12, zG s, zZ]) (by simp [results, Tryz.results155, go_sem]; try rfl) rfl ⟨rfl, ?_⟩;exact (Below.refl _ _).alloc (Nat.le_refl _) _
def numN (n : Int) : Nat := if 0 <= n /\ n <= 1000000000 then n.toNat else 0
theorem numN_le (n : Int) : numN n <= 1000000000 := by unfold numN; split <;> omega
theorem res_cells {w W2 wr : World} {t : TypeId} (h2 : W2 = w.alloc (Obj.cells #[Value.int IntKind.i64 0, Value.string { data := #[] }, Value.slice none 0 0] t)) (hb : zW W2 wr) :
  (wr.cell? ⟨w.heap.size, 0, none⟩ = some (zI 0) /\ wr.cell? ⟨w.heap.size, 1, none⟩ = some (zG ⟨#[]⟩) /\ wr.cell? ⟨w.heap.size, 2, none⟩ = some zZ) /\ (∀ j, wr.frozen? ⟨w.heap.size, j, none⟩ = false) /\ zW w wr := by
 have h := one_laid w (zI 0) (zG ⟨#[]⟩) zZ t W2 h2;have hh : wr.heap[w.heap.size]? = some (.cells #[zI 0, zG ⟨#[]⟩, zZ] t (0, 0)) := by
  rw [hb.block _ h.2.1, h2];exact heap_alloc_new w _
 obtain ⟨a, b⟩ := cell_in hh;exact ⟨a, b, h.1.trans (hb.mono h.1.size)⟩
theorem specIntItem_any (n0 : Int) (w : World) (h64 : -9223372036854775808 <= n0 /\ n0 <= 9223372036854775807) : Calls Tryz.prog 154 #[zI n0] w fun e w' => e = .returned (.agg #[zI 2, zG ⟨(intT (numN n0)).toArray⟩, zZ]) /\ zW w w' := by
 by_cases hin : 0 <= n0 /\ n0 <= 1000000000
 ·obtain ⟨n, rfl⟩ : ∃ n : Nat, n0 = (n : Int) := ⟨n0.toNat, by omega⟩
  have hnn : numN (n : Int) = n := by unfold numN; rw [if_pos hin]; omega
  have hbl := beN_len 9 n;rw [hnn];clear hnn;go_enter Tryz.func154, Tryz.ntmps154;go_wp2_with fail;refine (in_yes (n : Int) 0 1000000000 _ (by omega) (by omega)).mono ?_;rintro e w' ⟨rfl, rfl⟩;go_wp2_with fail;obtain ⟨W2, hW2⟩ : ∃ W, W = w.alloc (Obj.cells #[Value.int IntKind.i64 0, Value.string { data := #[] }, Value.slice none 0 0] 178) := ⟨_, rfl⟩;rw [<- hW2];have HW : Hid (W2 = w.alloc (Obj.cells #[Value.int IntKind.i64 0, Value.string { data := #[] }, Value.slice none 0 0] 178)) := hW2;clear hW2
  go_loopw [3, 0] (fun sv kv wr => ∃ (m : Nat) (ds : List UInt8), m <= n /\ kv = zI (m : Int) /\ sv = zG ⟨ds.toArray⟩ /\ Hid (∃ f, m < 256 ^ f /\ beN f m ++ ds = beN 9 n) /\ Hid (zW W2 wr)) (fun _ kv _ => (intOf kv).toNat)
  case atStart => exact ⟨n, [], Nat.le_refl _, rfl, rfl, ⟨9, by omega, by simp⟩, Below.refl _ _⟩
  case round =>
   obtain ⟨m, ds, hm, rfl, rfl, HD, HB⟩ := hrel;have hdl : ds.length <= 9 := by
    obtain ⟨f, _, hf⟩ := HD.out;have := congrArg List.length hf;rw [List.length_append] at this;omega
   by_cases hm0 : m = 0
   ·subst hm0
    have HF : Hid (ds = beN 9 n) := by
     obtain ⟨f, _, hf⟩ := HD.out;rw [beN_nil, List.nil_append] at hf;exact hf
    obtain ⟨⟨c0, c1, c2⟩, fz, hbw⟩ := res_cells HW.out HB.out;have HBW : Hid (zW w wr) := hbw;clear hbw
    cases ds with
    | nil =>
     have HR : Hid (intT n = [0]) := by
      show intT n = [0];unfold intT;rw [<- HF.out]
      decide
     go_wp2_with fail;refine bodyPost_ret (v := .agg #[zI 2, zG ⟨#[0]⟩, zZ]) (by simp [results, Tryz.results154, go_sem, c0, c1, c2]; try rfl) rfl ⟨by rw [HR.out], ?_⟩;exact ((HBW.setCell (p := ⟨w.heap.size, 0, none⟩) (Nat.le_refl _) _).setCell (p := ⟨w.heap.size, 1, none⟩) (Nat.le_refl _) _).setCell (p := ⟨w.heap.size, 2, none⟩) (Nat.le_refl _) _
    | cons b r =>
     have hg0 : ∀ h, (⟨(b :: r).toArray⟩ : ByteArray)[0]'h = b := fun h => rfl
     have hcat : (⟨#[0]⟩ : ByteArray) ++ ⟨(b :: r).toArray⟩ = ⟨(0 :: b :: r).toArray⟩ := by apply ByteArray.ext; simp
     by_cases hb : 128 <= b.toNat
     ·have hbi : (128 : Int) <= (b.toNat : Int) := by omega
      have HR : Hid (intT n = 0 :: b :: r) := by
       show intT n = 0 :: b :: r;unfold intT;rw [<- HF.out, if_pos (.inr (UInt8.le_iff_toNat_le.2 hb))]
      have ra := fun W => run_string_add_sum (P := Tryz.prog) W ⟨#[0]⟩ ⟨(b :: r).toArray⟩ (by show 1 + (b :: r).toArray.size <= _; simp at hdl |-; omega)
      go_wp2_with fail;refine bodyPost_ret (v := .agg #[zI 2, zG ⟨(0 :: b :: r).toArray⟩, zZ]) (by simp [results, Tryz.results154, go_sem, c0, c1, c2]; try rfl) rfl ⟨by rw [HR.out], ?_⟩;exact ((HBW.setCell (p := ⟨w.heap.size, 0, none⟩) (Nat.le_refl _) _).setCell (p := ⟨w.heap.size, 1, none⟩) (Nat.le_refl _) _).setCell (p := ⟨w.heap.size, 2, none⟩) (Nat.le_refl _) _
     ·have hbi : ¬ (128 : Int) <= (b.toNat : Int) := by omega
      have HR : Hid (intT n = b :: r) := by
       show intT n = b :: r;unfold intT;rw [<- HF.out, if_neg];intro h
       rcases h with h | h
       ·simp at h
       ·exact hb (UInt8.le_iff_toNat_le.1 h)
      go_wp2_with fail;refine bodyPost_ret (v := .agg #[zI 2, zG ⟨(b :: r).toArray⟩, zZ]) (by simp [results, Tryz.results154, go_sem, c0, c1, c2]; try rfl) rfl ⟨by rw [HR.out], ?_⟩;exact ((HBW.setCell (p := ⟨w.heap.size, 0, none⟩) (Nat.le_refl _) _).setCell (p := ⟨w.heap.size, 1, none⟩) (Nat.le_refl _) _).setCell (p := ⟨w.heap.size, 2, none⟩) (Nat.le_refl _) _
   ·have hmp : (0 : Int) < (m : Int) := by omega
    have hcv := conv_byte ((m : Int) % 256) (UInt8.ofNat (m % 256)) (by rw [UInt8.toNat_ofNat']; omega);have HS : Hid (∃ g, m / 256 < 256 ^ g /\ beN g (m / 256) ++ (UInt8.ofNat (m % 256) :: ds) = beN 9 n) := by
     obtain ⟨f, h1, h2⟩ := HD.out;exact beN_step h2 hm0 h1
    go_wp2_with fail
    go_roundw
    case rel => exact ⟨m / 256, UInt8.ofNat (m % 256) :: ds, by omega, by go_num, by rw [cat_oneM], HS.out, HB.alloc HB.size _⟩
    case measure => simp [intOf]; omega
 ·have hnn : numN n0 = 0 := by unfold numN; rw [if_neg hin]
  have HR : Hid (intT (numN n0) = [0]) := by show intT (numN n0) = [0]; rw [hnn]; decide
  clear hnn;go_enter Tryz.func154, Tryz.ntmps154;go_wp2_with fail;refine (in_no n0 0 1000000000 _ (by omega)).mono ?_;rintro e w' ⟨rfl, rfl⟩;go_wp2_with fail;obtain ⟨W2, hW2⟩ : ∃ W, W = w.alloc (Obj.cells #[Value.int IntKind.i64 0, Value.string { data := #[] }, Value.slice none 0 0] 178) := ⟨_, rfl⟩;rw [<- hW2];obtain ⟨⟨c0, c1, c2⟩, fz, hbw⟩ := res_cells hW2 (Below.refl _ _);have HBW : Hid (zW w W2) := hbw;clear hW2 hbw
  go_loopw [3, 0] (fun sv kv wr => kv = zI 0 /\ sv = zG ⟨#[]⟩ /\ wr = W2) (fun _ kv _ => 0)
  case atStart => exact ⟨rfl, rfl, rfl⟩
  case round =>
   obtain ⟨rfl, rfl, rfl⟩ := hrel;go_wp2_with fail;refine bodyPost_ret (v := .agg #[zI 2, zG ⟨#[0]⟩, zZ]) (by simp [results, Tryz.results154, go_sem, c0, c1, c2]; try rfl) rfl ⟨by rw [HR.out], ?_⟩;exact ((HBW.setCell (p := ⟨w.heap.size, 0, none⟩) (Nat.le_refl _) _).setCell (p := ⟨w.heap.size, 1, none⟩) (Nat.le_refl _) _).setCell (p := ⟨w.heap.size, 2, none⟩) (Nat.le_refl _) _
end Go.Proofs.YtabfamhaihnccaaGreat
