/-
  Texts of the proof.
-/
import Derived.Test.YtcbjlbpkoneibaaGreatDoorSH1
import Derived.ArgAppend
import Derived.Laws.IdiomStrings
import Derived.Deep.Cut
import Derived.Deep.DeepMust
import Derived.Test.YtcbjlbpkoneibaaGreatDoorSR27
set_option linter.unusedVariables false
set_option linter.unusedSimpArgs false
set_option maxRecDepth 100000
set_option maxHeartbeats 25600000
namespace Go.Proofs.YtcbjlbpkoneibaaGreatDoor
open Go.RowKit
theorem keys_any (w : World) : Calls Tryz.prog 164 #[] w fun e w' => e = .returned (.agg (arrN 64 keyf)) /\ zW w w' := by
 go_enter Tryz.func164, Tryz.ntmps164;go_wp2_with (refine step_storeRow 183 w.heap.size 64 keyf (Row.new w 183 64 fun _ => 0) rfl rfl rfl rfl rfl info64 ?_; intro W2 HW2);have hW2 := HW2.out;subst hW2;have hrow := Row.setRow (g := keyf) (Row.new w 183 64 fun _ => 0);refine bodyPost_ret (v := .agg (arrN 64 keyf)) ?_ rfl ⟨rfl, below_setRow ((Below.refl _ _).alloc (Nat.le_refl _) _) (Nat.le_refl _) _⟩;exact results_cell_row rfl _ _ w.heap.size _ (arrN 64 keyf) (0, 0) _ rfl hrow Tryz.underlying183 rfl (by rw [arrN_size]; exact info64)
end Go.Proofs.YtcbjlbpkoneibaaGreatDoor
namespace Go.Proofs.YtcbjlbpkoneibaaGreatDoor
open Go.RowKit
theorem cellB_ofN {n : Nat} (h : n < 256) : cellB (UInt8.ofNat n) = .int .u8 (n : Int) := by unfold cellB; rw [u8_ofNat h]
theorem four8_cells (x : Nat) : (four8 x).map cellB = [.int .u8 ((x / 16777216 % 256 : Nat) : Int), .int .u8 ((x / 65536 % 256 : Nat) : Int), .int .u8 ((x / 256 % 256 : Nat) : Int), .int .u8 ((x % 256 : Nat) : Int)] := by
 simp only [four8, List.map_cons, List.map_nil];rw [cellB_ofN (by omega), cellB_ofN (by omega), cellB_ofN (by omega), cellB_ofN (by omega)]
theorem four8_conv (x : Nat) (w : World) (hx : x < 4294967296) : (convert 22 9 (zS (some ⟨w.heap.size, 0, none⟩) 4 4)).run Tryz.prog (w.alloc (.cells #[.int .u8 ((x : Int) / 16777216), .int .u8 ((x : Int) / 65536 % 256), .int .u8 ((x : Int) / 256 % 256), .int .u8 ((x : Int) % 256)] 5)) =
  .ok (zG ⟨(four8 x).toArray⟩) (w.alloc (.cells #[.int .u8 ((x : Int) / 16777216), .int .u8 ((x : Int) / 65536 % 256), .int .u8 ((x : Int) / 256 % 256), .int .u8 ((x : Int) % 256)] 5)) := by
 have e4 : (four8 x).length = 4 := rfl;have hc : ∀ j (hj : j < (four8 x).length), (w.alloc (.cells #[.int .u8 ((x : Int) / 16777216), .int .u8 ((x : Int) / 65536 % 256), .int .u8 ((x : Int) / 256 % 256), .int .u8 ((x : Int) % 256)] 5)).cell? ((⟨w.heap.size, 0, none⟩ : Addr).add j) = some (.int .u8 ((four8 x)[j].toNat : Int)) := fun j hj => by
  have h1 : ((four8 x).map cellB)[j]? = some (.int .u8 ((four8 x)[j].toNat : Int)) := by simp [hj, cellB]
  rw [four8_cells, show x / 16777216 % 256 = x / 16777216 by omega] at h1;rw [<- h1];have := World.cell?_alloc_mark w #[.int .u8 ((x : Int) / 16777216), .int .u8 ((x : Int) / 65536 % 256), .int .u8 ((x : Int) / 256 % 256), .int .u8 ((x : Int) % 256)] 5 (0, 0) j;have ea : (⟨w.heap.size, 0, none⟩ : Addr).add j = ⟨w.heap.size, j, none⟩ := by unfold Addr.add; split <;> simp_all
  rw [ea, this];simp
 exact run_convert_bytes_back _ 22 9 5 ⟨w.heap.size, 0, none⟩ 4 (four8 x) Tryz.underlying22 Tryz.underlying5 Tryz.underlying9 hc
def fourB (x : Nat) : ByteArray := ⟨(four8 x).toArray⟩
theorem fourB_size (x : Nat) : (fourB x).size = 4 := rfl
theorem fourBytes_any (x : Nat) (w : World) (hx : x < 4294967296) : Calls Tryz.prog 185 #[.int .u32 x] w fun e w' => e = .returned (zG (fourB x)) /\ zW w w' := by
 have hcv := fun w => four8_conv x w hx
 go_enter Tryz.func185, Tryz.ntmps185
 go_wp2
 go_ret;exact ⟨rfl, (Below.refl _ _).alloc (Nat.le_refl _) _⟩
def padB (s : ByteArray) : ByteArray := ⟨(padL s.data.toList).toArray⟩
def zeroB (n : Nat) : ByteArray := ⟨(List.replicate n (0 : UInt8)).toArray⟩
theorem zeroB_size (n : Nat) : (zeroB n).size = n := by show (List.replicate n (0 : UInt8)).toArray.size = n; simp
theorem repeat_zero (n : Nat) (w : World) (hn : n < 64) : Calls Tryz.prog 121 #[zG ⟨#[0]⟩, zI n] w fun e w' => e = .returned (zG (zeroB n)) /\ zW w w' := by
 refine (Tryz.strings_Repeat ⟨#[0]⟩ n w (by omega) (by show 1 * n <= _; omega)).mono ?_;rintro e w1 ⟨rfl, hb⟩;refine ⟨?_, hb⟩;have : ∀ m : Nat, Lib.repeatL [(0 : UInt8)] m = List.replicate m 0 := by
  intro m
  induction m with
  | zero => rfl
  | succ m ih => rw [Lib.repeatL, ih]; rfl
 show Ending.returned (zG ⟨(Lib.repeatL [(0 : UInt8)] n).toArray⟩) = _;rw [this];rfl
theorem pad_is (s : ByteArray) (n fl gp hi lo : Nat) (hs : s.size <= 1000000000000) (hn : s.size = n) (hf : (n + 9) % 64 = fl) (hg : (64 - fl) % 64 = gp) (hh : n * 8 / 4294967296 = hi) (hl : n * 8 % 4294967296 = lo) :
  s ++ ⟨#[128]⟩ ++ zeroB gp ++ (fourB hi ++ fourB lo) = padB s := by
 apply ByteArray.ext;have e : padL s.data.toList = s.data.toList ++ (128 :: (List.replicate gp (0 : UInt8) ++ (four8 hi ++ four8 lo))) := by
  have h1 : s.data.toList.length = n := hn;unfold padL padTail;rw [h1, hf, hg];have b : ∀ x y : Nat, x % 256 = y % 256 -> UInt8.ofNat x = UInt8.ofNat y := fun x y h => by
   apply UInt8.toNat_inj.1;rw [UInt8.toNat_ofNat', UInt8.toNat_ofNat'];exact h
  unfold four8
  congr 3
  simp only [List.cons_append, List.nil_append];rw [b (8 * n / 72057594037927936) (hi / 16777216 % 256) (by omega), b (8 * n / 281474976710656) (hi / 65536 % 256) (by omega), b (8 * n / 1099511627776) (hi / 256 % 256) (by omega), b (8 * n / 4294967296) (hi % 256) (by omega),
   b (8 * n / 16777216) (lo / 16777216 % 256) (by omega), b (8 * n / 65536) (lo / 65536 % 256) (by omega), b (8 * n / 256) (lo / 256 % 256) (by omega), b (8 * n) (lo % 256) (by omega)]
 unfold padB;rw [e];simp [zeroB, fourB, ByteArray.data_append]
theorem implPad_any (s : ByteArray) (w : World) (hs : s.size <= 1000000000000) : Calls Tryz.prog 171 #[zG s] w fun e w' => e = .returned (zG (padB s)) /\ zW w w' := by
 obtain ⟨n, hn⟩ := zE (s.size);obtain ⟨fl, hf⟩ := zE ((n + 9) % 64);obtain ⟨gp, hg⟩ := zE ((64 - fl) % 64);obtain ⟨hi, hh⟩ := zE (n * 8 / 4294967296);obtain ⟨lo, hl⟩ := zE (n * 8 % 4294967296);have HP : Hid (s ++ ⟨#[128]⟩ ++ zeroB gp ++ (fourB hi ++ fourB lo) = padB s) := pad_is s n fl gp hi lo hs hn hf hg hh hl;have hgl : gp < 64 := by omega
 have i1 : ((n : Int) + 1 + 8) % 64 = (fl : Int) := by omega
 have i2 : (64 - (fl : Int)) % 64 = (gp : Int) := by omega
 have i3 : (n : Int) * 8 / 4294967296 = (hi : Int) := by omega
 have i4 : (n : Int) * 8 % 4294967296 = (lo : Int) := by omega
 have hhl : hi < 4294967296 := by omega
 have hll : lo < 4294967296 := by omega
 have hfl : fl < 64 := by omega
 have z1 := fourB_size hi;have z2 := fourB_size lo;have z3 := zeroB_size gp;clear hf hg hh hl;go_enter Tryz.func171, Tryz.ntmps171;go_wp2_with fail;refine (fourBytes_any hi _ hhl).mono ?_;rintro e w1 ⟨rfl, hb1⟩;go_wp2_with fail;refine (fourBytes_any lo _ hll).mono ?_;rintro e w2 ⟨rfl, hb2⟩;have HB2 : Hid (zW w w2) := hb1.trans (hb2.mono hb1.size);clear hb1 hb2;go_wp2_with fail;refine (repeat_zero gp _ hgl).mono ?_;rintro e w3 ⟨rfl, hb3⟩;have HB3 : Hid (zW w w3) := HB2.trans (hb3.mono HB2.size);clear hb3 HB2;go_wp2_with fail;go_ret;exact ⟨by rw [<- HP.out]; rfl, HB3.out⟩
def OwnB (w : World) (base : Nat) (v : Value) (l : List UInt8) : Prop :=
 ∃ g cap cur fz, v = zS (some ⟨g, 0, none⟩) l.length cap /\ base <= g /\ w.heap[g]? = some (.cells cur 5 fz) /\ (∀ j, j < cap -> ¬ (fz.1 <= j /\ j < fz.2)) /\ l.length <= cap /\ cur.size = cap /\ cap <= maxLen /\ cur.toList.take l.length = l.map cellB
theorem OwnB.of_own {w : World} {base : Nat} {v : Value} {l : List UInt8} (h : w.ownsRow base 5 1 v l.length (l.map cellB)) (hl : 0 < l.length) : OwnB w base v l := by
 obtain ⟨h1, h2⟩ := h
 rcases h2 with ⟨_, h0⟩ | ⟨g, cap, cur, hv, hbg, hg, h3, h4, h5, h6⟩
 ·omega
 ·exact ⟨g, cap, cur, (0, 0), hv, hbg, hg, fun j _ hj => by simp at hj, h3, by simpa using h5, h4, by simpa using h6⟩
theorem OwnB.cell {w : World} {base : Nat} {v : Value} {l : List UInt8} (h : OwnB w base v l) : ∃ g cap, v = zS (some ⟨g, 0, none⟩) l.length cap /\ base <= g /\ g < w.heap.size /\ ∀ j (hj : j < l.length), w.cell? ⟨g, j, none⟩ = some (.int .u8 (l[j].toNat : Int)) := by
 obtain ⟨g, cap, cur, fz, hv, hbg, hg, hf, h3, h4, h5, h6⟩ := h;refine ⟨g, cap, hv, hbg, (Array.getElem?_eq_some_iff.1 hg).1, fun j hj => ?_⟩;rw [cell_of_row w g j cur 5 fz hg];have h7 : (cur.toList.take l.length)[j]? = (l.map cellB)[j]? := by rw [h6]
 rw [List.getElem?_take_of_lt hj] at h7;simp only [Array.getElem?_toList] at h7;rw [h7];simp [hj, cellB]
theorem OwnB.new (w : World) (s : ByteArray) (hs : s.size <= 1000000000) : OwnB (w.drew.alloc (.cells (bytesRow s (grownCap w s.size 0 5)) 5 ((bytesRow s (grownCap w s.size 0 5)).size, (bytesRow s (grownCap w s.size 0 5)).size + 1))) w.heap.size (zS (some ⟨w.heap.size, 0, none⟩) s.size (grownCap w s.size 0 5)) s.data.toList := by
 have hge := grownCap_ge w s.size 0 5;have hle := grownCap_le_maxLen w s.size 0 5 (by unfold maxLen; omega);have hsz : (bytesRow s (grownCap w s.size 0 5)).size = grownCap w s.size 0 5 := by
  have : s.data.size = s.size := rfl;simp [bytesRow, this];omega
 have hl : s.data.toList.length = s.size := rfl;refine ⟨w.heap.size, grownCap w s.size 0 5, bytesRow s (grownCap w s.size 0 5), ((bytesRow s (grownCap w s.size 0 5)).size, (bytesRow s (grownCap w s.size 0 5)).size + 1), by rw [hl], Nat.le_refl _, ?_, fun j hj h => ?_, by rw [hl]; exact hge, hsz, hle, ?_⟩
 ·show (w.heap.push _)[w.heap.size]? = _
  simp
 ·rw [hsz] at h
  simp at h;omega
 ·rw [hl]
  unfold bytesRow;rw [Array.toList_append, List.take_append_of_le_length (by rw [Array.length_toList, Array.size_map]; exact Nat.le_refl s.data.size)];rw [List.take_of_length_le (by rw [Array.length_toList, Array.size_map]; exact Nat.le_refl s.data.size)];simp [cellB]
theorem ownsRow_low {w : World} {b b' : Nat} {e : TypeId} {size : Nat} {v : Value} {n : Nat} {xs : List Value} (h : w.ownsRow b e size v n xs) (hb : b' <= b) : w.ownsRow b' e size v n xs := by
 obtain ⟨h1, h2⟩ := h;refine ⟨h1, ?_⟩
 rcases h2 with h2 | ⟨g, cap, cur, hv, hbg, r⟩
 ·exact .inl h2
 ·exact .inr ⟨g, cap, cur, hv, Nat.le_trans hb hbg, r⟩
theorem size_allocB (w : World) (o : Obj) : (w.alloc o).heap.size = w.heap.size + 1 := by
 show (w.heap.push o).size = _;simp
theorem step_appB {ops : Array Oper} {rest : List Oper} {o : Oper} {a : Act} {Q : Exit -> Act -> World -> Prop} {w0 wr : World} {base : Nat} {v : Value} {l : List UInt8} (c : UInt8) (p : Int) (hp : p = (c.toNat : Int)) (hown : OwnB wr base v l) (hbel : Below base w0 wr)
  (hgd : o.guard = none) (s x : Operand) (ho : o.op = .call { callee := .builtin .append, args := #[s, x], argTypes := #[22, 22] })
  (hs : a.eval s = v) (hx : a.eval x = zS (some ⟨wr.heap.size, 0, none⟩) 1 1) (h63 : l.length <= 1000000000000) (hbase : base <= wr.heap.size)
  (h : ∀ v' w', OwnB w' base v' (l ++ [c]) -> Below base w0 w' -> wpList Tryz.prog ops Q rest (a.put o.dst v') w') :
  wpList Tryz.prog ops Q (o :: rest) a (wr.alloc (.cells #[.int .u8 p] 5)) := by
 subst hp;obtain ⟨i0, hi, hz0, hz1, hz2⟩ := info_parts info5;have hb1 : Below base w0 (wr.alloc (.cells #[.int .u8 (c.toNat : Int)] 5)) := hbel.alloc hbase _;obtain ⟨g0, cap0, hv0, _, _, hcell⟩ := hown.cell;obtain ⟨g, cap, cur, fz, hv, hbg, hg, hf, h3, h4, h5, h6⟩ := hown;have hgl : g < wr.heap.size := (Array.getElem?_eq_some_iff.1 hg).1;have hgg : g0 = g := by rw [hv0] at hv; simp at hv; exact hv.1
 subst hgg;have hg1 : (wr.alloc (.cells #[.int .u8 (c.toNat : Int)] 5)).heap[g0]? = some (.cells cur 5 fz) := by
  show (wr.heap.push _)[g0]? = _;rw [Array.getElem?_push, if_neg (by omega)];exact hg
 refine wpList_append_arg _ hgd s x 22 ho 5 i0 (.int .u8 0) 1 1 Tryz.underlying22 hi hz0 hz1 hz2 rfl Nat.one_pos g0 0 l.length cap (l.map cellB) (by rw [hs, hv]) (by simp) (fun j u hj => ?_) ⟨wr.heap.size, 0, none⟩ 1 1 [.int .u8 (c.toNat : Int)] hx rfl (fun j u hj => ?_) (by intro u hu; simp at hu; subst hu; rfl) (fun hr j hj => ?_) (by unfold maxLen; omega) (by omega) (fun hr => ?_) (fun hr v' w' ho1 hgr => ?_)
 ·rw [Nat.zero_add, cell_of_row _ g0 j cur 5 fz hg1]
  have h7 : (cur.toList.take l.length)[j]? = (l.map cellB)[j]? := by rw [h6]
  have hjl : j < l.length := by
   have := (List.getElem?_eq_some_iff.1 hj).1;simpa using this
  rw [List.getElem?_take_of_lt hjl, Array.getElem?_toList] at h7;rw [h7];exact hj
 ·have hj0 : j = 0 := by
   have := (List.getElem?_eq_some_iff.1 hj).1;simp at this;exact this
  subst hj0;simp at hj;subst hj;rw [show (⟨wr.heap.size, 0, none⟩ : Addr).add 0 = ⟨wr.heap.size, 0, none⟩ by unfold Addr.add; split <;> simp_all]
  rw [cell_of_row _ wr.heap.size 0 #[.int .u8 (c.toNat : Int)] 5 (0, 0) (by show (wr.heap.push _)[wr.heap.size]? = _; simp)];rfl
 ·have hj0 : j = 0 := by simpa using hj
  subst hj0;rw [show 0 + l.length * 1 + 0 = l.length by omega];constructor
  ·rw [cell_of_row _ g0 l.length cur 5 fz hg1, Array.getElem?_eq_getElem (by omega)]
   rfl
  ·have := hf l.length (by omega)
   simp only [World.frozen?, hg1];simp;omega
 ·have e1 : (wr.alloc (.cells #[.int .u8 (c.toNat : Int)] 5)).setCells g0 (0 + l.length * 1) [.int .u8 (c.toNat : Int)] = (wr.alloc (.cells #[.int .u8 (c.toNat : Int)] 5)).setCell ⟨g0, l.length, none⟩ (.int .u8 (c.toNat : Int)) := by
   rw [show 0 + l.length * 1 = l.length by omega];rfl
  rw [e1];refine h _ _ ⟨g0, cap, cur.setIfInBounds l.length (.int .u8 (c.toNat : Int)), fz, by simp, hbg, ?_, hf, by simp; omega, by simpa using h4, h5, ?_⟩ (hb1.setCell (p := ⟨g0, l.length, none⟩) hbg _)
  ·rw [setCell_eq_setRow _ g0 l.length cur 5 fz _ hg1]
   exact setRow_heap _ g0 cur _ 5 _ hg1
  ·rw [List.length_append, List.length_singleton, Array.toList_setIfInBounds, List.take_succ_eq_append_getElem (by simp; omega), List.take_set_of_le (Nat.le_refl _), h6, List.map_append]
   simp [cellB]
 ·refine h v' w' (OwnB.of_own (by rw [List.length_append, List.map_append]; exact ownsRow_low ho1 (by rw [size_allocB]; omega)) (by simp)) (hb1.grown hgr (by rw [size_allocB]; omega) (fun j hj => by cases hj))
theorem step_appC {ops : Array Oper} {rest : List Oper} {o : Oper} {a : Act} {Q : Exit -> Act -> World -> Prop} {w0 wr : World} {base : Nat} {v : Value} {l : List UInt8} (n : Nat) (c : UInt8) (p : Int) (hp : p = (c.toNat : Int)) (hown : OwnB wr base v l) (hln : l.length = n) (hbel : Below base w0 wr) (hbase : base <= w0.heap.size)
  (hgd : o.guard = none) (s x : Operand) (ho : o.op = .call { callee := .builtin .append, args := #[s, x], argTypes := #[22, 22] })
  (hs : a.eval s = v) (hx : a.eval x = zS (some ⟨wr.heap.size, 0, none⟩) 1 1) (h63 : n <= 1000000000000)
  (h : ∀ g cap w', Hid (OwnB w' base (zS (some ⟨g, 0, none⟩) (n + 1) cap) (l ++ [c]) /\ Below base w0 w') -> wpList Tryz.prog ops Q rest (a.put o.dst (zS (some ⟨g, 0, none⟩) (n + 1) cap)) w') :
  wpList Tryz.prog ops Q (o :: rest) a (wr.alloc (.cells #[.int .u8 p] 5)) := by
 refine step_appB c p hp hown hbel hgd s x ho hs hx (by omega) (Nat.le_trans hbase hbel.size) fun v' w' ho1 hb1 => ?_
 obtain ⟨g, cap, hv, _⟩ := ho1.cell;have e : (l ++ [c]).length = n + 1 := by simp [hln]
 rw [e] at hv;subst hv;exact h g cap w' ⟨ho1, hb1⟩
def low8 (x : Nat) : UInt8 := UInt8.ofNat x
def lenB (n : Nat) : List UInt8 := [UInt8.ofNat (8 * n / 72057594037927936), UInt8.ofNat (8 * n / 281474976710656), UInt8.ofNat (8 * n / 1099511627776), UInt8.ofNat (8 * n / 4294967296), UInt8.ofNat (8 * n / 16777216), UInt8.ofNat (8 * n / 65536), UInt8.ofNat (8 * n / 256), low8 (8 * n)]
theorem specPad_any (s : ByteArray) (w : World) (hs : s.size <= 1000000000) : Calls Tryz.prog 165 #[zG s] w fun e w' => e = .returned (zG (padB s)) /\ zW w w' := by
 have hcv := fun w => run_bytes_of_string (P := Tryz.prog) w 9 22 5 s Tryz.underlying9 Tryz.underlying22 Tryz.underlying5
 have HN := OwnB.new w s hs;have HB : zW w (w.drew.alloc (.cells (bytesRow s (grownCap w s.size 0 5)) 5 ((bytesRow s (grownCap w s.size 0 5)).size, (bytesRow s (grownCap w s.size 0 5)).size + 1))) := (Below.refl _ _).drew.alloc (Nat.le_refl _) _;have hlen : s.data.toList.length = s.size := rfl;have HN' : Hid (OwnB (w.drew.alloc (.cells (bytesRow s (grownCap w s.size 0 5)) 5 ((bytesRow s (grownCap w s.size 0 5)).size, (bytesRow s (grownCap w s.size 0 5)).size + 1))) w.heap.size (zS (some ⟨w.heap.size, 0, none⟩) s.size (grownCap w s.size 0 5)) s.data.toList /\ zW w (w.drew.alloc (.cells (bytesRow s (grownCap w s.size 0 5)) 5 ((bytesRow s (grownCap w s.size 0 5)).size, (bytesRow s (grownCap w s.size 0 5)).size + 1)))) := ⟨HN, HB⟩;clear HN HB hlen;go_enter Tryz.func165, Tryz.ntmps165;go_upto_region 2 with fail;clear hcv;have HN : Hid (OwnB ((w.alloc (.cells (bytesRow s (grownCap w s.size 0 5)) 5 ((bytesRow s (grownCap w s.size 0 5)).size, (bytesRow s (grownCap w s.size 0 5)).size + 1))).drew) w.heap.size (zS (some ⟨w.heap.size, 0, none⟩) s.size (grownCap w s.size 0 5)) s.data.toList /\ zW w ((w.alloc (.cells (bytesRow s (grownCap w s.size 0 5)) 5 ((bytesRow s (grownCap w s.size 0 5)).size, (bytesRow s (grownCap w s.size 0 5)).size + 1))).drew)) := HN';clear HN';generalize grownCap w s.size 0 5 = C at *;generalize ((w.alloc (.cells (bytesRow s C) 5 ((bytesRow s C).size, (bytesRow s C).size + 1))).drew) = W1 at *;obtain ⟨n, hn⟩ := zE (s.size);have HL : Hid (s.data.toList.length = n) := hn
 rw [hn] at HN;rw [hn];go_wp2_with (at_builtin; go_must (refine step_appC n 128 128 (by decide) HN.1 HL.out HN.2 (Nat.le_refl _) rfl _ _ rfl rfl rfl (by omega) ?_; intro g1 cap1 w1 H1));clear HN
 go_loopw [3] (fun v wr => ∃ (z g cap m : Nat), v = .slice (some ⟨g, 0, none⟩) m cap /\ Hid (m = n + 1 + z) /\ z <= (64 - (n + 9) % 64) % 64 /\ Hid (OwnB wr w.heap.size (.slice (some ⟨g, 0, none⟩) m cap) (s.data.toList ++ (128 :: List.replicate z 0)) /\ zW w wr)) (fun v _ => match v with | .slice _ m _ => n + 100 - m | _ => 0)
 case atStart => exact ⟨0, g1, cap1, n + 1, rfl, rfl, by omega, ⟨H1.1, H1.2⟩⟩
 case round =>
  clear H1;obtain ⟨z, g, cap, m, rfl, HM, hz, H⟩ := hrel;have hm := HM.out;by_cases hlt : z < (64 - (n + 9) % 64) % 64
  ·have hmod : (m : Int) % 64 ≠ 56 := by omega
   have HL2 : Hid ((s.data.toList ++ (128 :: List.replicate z (0 : UInt8))).length = m) := by
    show _ = _;rw [List.length_append, HL.out, List.length_cons, List.length_replicate];omega
   have hml : m <= 1000000100 := by omega
   clear hm;go_wp2_with (at_builtin; go_must (refine step_appC m 0 0 (by decide) H.1 HL2.out H.2 (Nat.le_refl _) rfl _ _ rfl rfl rfl (by omega) ?_; intro g2 cap2 w2 H2));have H3 : Hid (OwnB w2 w.heap.size (zS (some ⟨g2, 0, none⟩) (m + 1) cap2) (s.data.toList ++ (128 :: List.replicate (z + 1) 0)) /\ zW w w2) := by
    refine ⟨?_, H2.2⟩;have e : s.data.toList ++ (128 :: List.replicate (z + 1) (0 : UInt8)) = s.data.toList ++ (128 :: List.replicate z 0) ++ [0] := by
     rw [List.append_assoc, List.cons_append, List.replicate_succ']
    rw [e];exact H2.1
   go_roundw
   case rel => exact ⟨z + 1, g2, cap2, m + 1, rfl, by have := HM.out; show _ = _; omega, by omega, H3⟩
   case measure => have := HM.out; simp; omega
  ·have hze : z = (64 - (n + 9) % 64) % 64 := by omega
   have hmod : (m : Int) % 64 = 56 := by omega
   have hml : m <= 1000000100 := by omega
   have H0 : Hid (OwnB wr w.heap.size (zS (some ⟨g, 0, none⟩) m cap) (s.data.toList ++ (128 :: List.replicate ((64 - (n + 9) % 64) % 64) 0) ++ (lenB n).take 0) /\ zW w wr) := by
    refine ⟨?_, H.2⟩;rw [List.take_zero, List.append_nil, <- hze];exact H.1
   have HL0 : Hid ((s.data.toList ++ (128 :: List.replicate ((64 - (n + 9) % 64) % 64) (0 : UInt8))).length = m) := by
    show _ = _;rw [List.length_append, HL.out, List.length_cons, List.length_replicate];omega
   clear H hm hze hz hlt HM;obtain ⟨l0, hl0⟩ := zE (s.data.toList ++ (128 :: List.replicate ((64 - (n + 9) % 64) % 64) (0 : UInt8)));rw [hl0] at H0 HL0;have HL1 : Hid (s.data.toList ++ (128 :: List.replicate ((64 - (n + 9) % 64) % 64) (0 : UInt8)) = l0) := hl0;clear hl0;go_wp2_with fail
   go_loopw [3, 5] (fun v iv wr => ∃ (j g cap q : Nat), j <= 8 /\ iv = zI (7 - (j : Int)) /\ v = zS (some ⟨g, 0, none⟩) q cap /\ Hid (q = m + j) /\ Hid (OwnB wr w.heap.size (zS (some ⟨g, 0, none⟩) q cap) (l0 ++ (lenB n).take j) /\ zW w wr)) (fun _ iv _ => (intOf iv + 1).toNat)
   case atStart => exact ⟨0, g, cap, m, by omega, rfl, rfl, rfl, H0⟩
   case round =>
    clear H0 hmod;obtain ⟨j, g, cap, q, hj, rfl, rfl, HQ, H⟩ := hrel;have hql : q <= 1000000200 := by have := HQ.out; omega
    have HL2 : Hid ((l0 ++ (lenB n).take j).length = q) := by
     show _ = _;rw [List.length_append, HL0.out, HQ.out, List.length_take];show m + min j 8 = m + j;omega
    by_cases hlt : j < 8
    ·have hc : j = 0 ∨ j = 1 ∨ j = 2 ∨ j = 3 ∨ j = 4 ∨ j = 5 ∨ j = 6 ∨ j = 7 := by omega
     rcases hc with rfl | rfl | rfl | rfl | rfl | rfl | rfl | rfl
     ·go_wp2_with (at_builtin; refine step_appC q (UInt8.ofNat (8 * n / 72057594037927936)) _ ?_ H.1 HL2.out H.2 (Nat.le_refl _) rfl _ _ rfl rfl rfl (by omega) ?_; (rw [UInt8.toNat_ofNat']; omega))
      intro g2 cap2 w2 H2;go_wp2_with fail
      go_roundw
      case rel => first | exact ⟨1, g2, cap2, q + 1, by omega, by first | go_num | rfl | decide, rfl, by have := HQ.out; show _ = _; omega, H2⟩ | ((repeat apply Exists.intro); exact ⟨⟨1, g2, cap2, q + 1, by omega, by first | go_num | rfl | decide, rfl, by have := HQ.out; show _ = _; omega, H2⟩, rfl⟩)
      case measure => simp [intOf]
     ·go_wp2_with (at_builtin; refine step_appC q (UInt8.ofNat (8 * n / 281474976710656)) _ ?_ H.1 HL2.out H.2 (Nat.le_refl _) rfl _ _ rfl rfl rfl (by omega) ?_; (rw [UInt8.toNat_ofNat']; omega))
      intro g2 cap2 w2 H2;go_wp2_with fail
      go_roundw
      case rel => first | exact ⟨2, g2, cap2, q + 1, by omega, by first | go_num | rfl | decide, rfl, by have := HQ.out; show _ = _; omega, H2⟩ | ((repeat apply Exists.intro); exact ⟨⟨2, g2, cap2, q + 1, by omega, by first | go_num | rfl | decide, rfl, by have := HQ.out; show _ = _; omega, H2⟩, rfl⟩)
      case measure => simp [intOf]
     ·go_wp2_with (at_builtin; refine step_appC q (UInt8.ofNat (8 * n / 1099511627776)) _ ?_ H.1 HL2.out H.2 (Nat.le_refl _) rfl _ _ rfl rfl rfl (by omega) ?_; (rw [UInt8.toNat_ofNat']; omega))
      intro g2 cap2 w2 H2;go_wp2_with fail
      go_roundw
      case rel => first | exact ⟨3, g2, cap2, q + 1, by omega, by first | go_num | rfl | decide, rfl, by have := HQ.out; show _ = _; omega, H2⟩ | ((repeat apply Exists.intro); exact ⟨⟨3, g2, cap2, q + 1, by omega, by first | go_num | rfl | decide, rfl, by have := HQ.out; show _ = _; omega, H2⟩, rfl⟩)
      case measure => simp [intOf]
     ·go_wp2_with (at_builtin; refine step_appC q (UInt8.ofNat (8 * n / 4294967296)) _ ?_ H.1 HL2.out H.2 (Nat.le_refl _) rfl _ _ rfl rfl rfl (by omega) ?_; (rw [UInt8.toNat_ofNat']; omega))
      intro g2 cap2 w2 H2;go_wp2_with fail
      go_roundw
      case rel => first | exact ⟨4, g2, cap2, q + 1, by omega, by first | go_num | rfl | decide, rfl, by have := HQ.out; show _ = _; omega, H2⟩ | ((repeat apply Exists.intro); exact ⟨⟨4, g2, cap2, q + 1, by omega, by first | go_num | rfl | decide, rfl, by have := HQ.out; show _ = _; omega, H2⟩, rfl⟩)
      case measure => simp [intOf]
     ·go_wp2_with (at_builtin; refine step_appC q (UInt8.ofNat (8 * n / 16777216)) _ ?_ H.1 HL2.out H.2 (Nat.le_refl _) rfl _ _ rfl rfl rfl (by omega) ?_; (rw [UInt8.toNat_ofNat']; omega))
      intro g2 cap2 w2 H2;go_wp2_with fail
      go_roundw
      case rel => first | exact ⟨5, g2, cap2, q + 1, by omega, by first | go_num | rfl | decide, rfl, by have := HQ.out; show _ = _; omega, H2⟩ | ((repeat apply Exists.intro); exact ⟨⟨5, g2, cap2, q + 1, by omega, by first | go_num | rfl | decide, rfl, by have := HQ.out; show _ = _; omega, H2⟩, rfl⟩)
      case measure => simp [intOf]
     ·go_wp2_with (at_builtin; refine step_appC q (UInt8.ofNat (8 * n / 65536)) _ ?_ H.1 HL2.out H.2 (Nat.le_refl _) rfl _ _ rfl rfl rfl (by omega) ?_; (rw [UInt8.toNat_ofNat']; omega))
      intro g2 cap2 w2 H2;go_wp2_with fail
      go_roundw
      case rel => first | exact ⟨6, g2, cap2, q + 1, by omega, by first | go_num | rfl | decide, rfl, by have := HQ.out; show _ = _; omega, H2⟩ | ((repeat apply Exists.intro); exact ⟨⟨6, g2, cap2, q + 1, by omega, by first | go_num | rfl | decide, rfl, by have := HQ.out; show _ = _; omega, H2⟩, rfl⟩)
      case measure => simp [intOf]
     ·go_wp2_with (at_builtin; refine step_appC q (UInt8.ofNat (8 * n / 256)) _ ?_ H.1 HL2.out H.2 (Nat.le_refl _) rfl _ _ rfl rfl rfl (by omega) ?_; (rw [UInt8.toNat_ofNat']; omega))
      intro g2 cap2 w2 H2;go_wp2_with fail
      go_roundw
      case rel => first | exact ⟨7, g2, cap2, q + 1, by omega, by first | go_num | rfl | decide, rfl, by have := HQ.out; show _ = _; omega, H2⟩ | ((repeat apply Exists.intro); exact ⟨⟨7, g2, cap2, q + 1, by omega, by first | go_num | rfl | decide, rfl, by have := HQ.out; show _ = _; omega, H2⟩, rfl⟩)
      case measure => simp [intOf]
     ·go_wp2_with (at_builtin; refine step_appC q (low8 (8 * n)) _ ?_ H.1 HL2.out H.2 (Nat.le_refl _) rfl _ _ rfl rfl rfl (by omega) ?_; (rw [low8, UInt8.toNat_ofNat']; omega))
      intro g2 cap2 w2 H2;go_wp2_with fail
      go_roundw
      case rel => first | exact ⟨8, g2, cap2, q + 1, by omega, by first | go_num | rfl | decide, rfl, by have := HQ.out; show _ = _; omega, H2⟩ | ((repeat apply Exists.intro); exact ⟨⟨8, g2, cap2, q + 1, by omega, by first | go_num | rfl | decide, rfl, by have := HQ.out; show _ = _; omega, H2⟩, rfl⟩)
      case measure => simp [intOf]
    ·have hj8 : j = 8 := by omega
     subst hj8;obtain ⟨g3, cap3, hv3, _, _, hcell⟩ := H.1.cell;have hv4 : g = g3 /\ q = (l0 ++ (lenB n).take 8).length /\ cap = cap3 := by simpa using hv3
     obtain ⟨rfl, hq, rfl⟩ := hv4;have hcv := run_convert_bytes_back (P := Tryz.prog) wr 22 9 5 ⟨g, 0, none⟩ cap (l0 ++ (lenB n).take 8) Tryz.underlying22 Tryz.underlying5 Tryz.underlying9 (fun i hi => by rw [show (⟨g, 0, none⟩ : Addr).add i = ⟨g, i, none⟩ by unfold Addr.add; split <;> simp_all]; exact hcell i hi)
     rw [<- hq] at hcv;have HP : Hid ((⟨(l0 ++ (lenB n).take 8).toArray⟩ : ByteArray) = padB s) := by
      show _ = (⟨(padL s.data.toList).toArray⟩ : ByteArray);rw [<- HL1.out];unfold padL padTail lenB low8;rw [HL.out];simp
     clear hcell hv3 hq;go_wp2_with fail;go_ret;exact ⟨by rw [<- HP.out]; rfl, H.2⟩
end Go.Proofs.YtcbjlbpkoneibaaGreatDoor
