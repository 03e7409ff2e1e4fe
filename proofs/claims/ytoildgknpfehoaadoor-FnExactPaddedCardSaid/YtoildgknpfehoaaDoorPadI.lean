/-
  The program's PadText answers the text filled to whole blocks ('padL').
-/
import Derived.Test.YtoildgknpfehoaaDoorShaP
import Derived.Test.YtoildgknpfehoaaDoorHexP
import Derived.Test.YtoildgknpfehoaaDoorShelf
namespace Go.Proofs.YtoildgknpfehoaaDoor
open Go.RowKit

theorem cellB_ofN {n : Nat} (h : n < 256) : cellB (UInt8.ofNat n) = .int .u8 (n : Int) := by unfold cellB; rw [u8_ofNat h]
theorem four8_cells (x : Nat) : (four8 x).map cellB = [.int .u8 ((x / 16777216 % 256 : Nat) : Int), .int .u8 ((x / 65536 % 256 : Nat) : Int), .int .u8 ((x / 256 % 256 : Nat) : Int), .int .u8 ((x % 256 : Nat) : Int)] := by
  simp only [four8, List.map_cons, List.map_nil]
  rw [cellB_ofN (by omega), cellB_ofN (by omega), cellB_ofN (by omega), cellB_ofN (by omega)]
theorem four8_conv (x : Nat) (w : World) (hx : x < 4294967296) : (convert 46 9 (.slice (some ⟨w.heap.size, 0, none⟩) 4 4)).run Tryd.prog (w.alloc (.cells #[.int .u8 ((x : Int) / 16777216), .int .u8 ((x : Int) / 65536 % 256), .int .u8 ((x : Int) / 256 % 256), .int .u8 ((x : Int) % 256)] 5)) =
    .ok (.string ⟨(four8 x).toArray⟩) (w.alloc (.cells #[.int .u8 ((x : Int) / 16777216), .int .u8 ((x : Int) / 65536 % 256), .int .u8 ((x : Int) / 256 % 256), .int .u8 ((x : Int) % 256)] 5)) := by
  have e4 : (four8 x).length = 4 := rfl
  have hc : ∀ j (hj : j < (four8 x).length), (w.alloc (.cells #[.int .u8 ((x : Int) / 16777216), .int .u8 ((x : Int) / 65536 % 256), .int .u8 ((x : Int) / 256 % 256), .int .u8 ((x : Int) % 256)] 5)).cell? ((⟨w.heap.size, 0, none⟩ : Addr).add j) = some (.int .u8 ((four8 x)[j].toNat : Int)) := fun j hj => by
    have h1 : ((four8 x).map cellB)[j]? = some (.int .u8 ((four8 x)[j].toNat : Int)) := by simp [hj, cellB]
    rw [four8_cells, show x / 16777216 % 256 = x / 16777216 by omega] at h1
    rw [← h1]
    have := World.cell?_alloc_mark w #[.int .u8 ((x : Int) / 16777216), .int .u8 ((x : Int) / 65536 % 256), .int .u8 ((x : Int) / 256 % 256), .int .u8 ((x : Int) % 256)] 5 (0, 0) j
    have ea : (⟨w.heap.size, 0, none⟩ : Addr).add j = ⟨w.heap.size, j, none⟩ := by unfold Addr.add; split <;> simp_all
    rw [ea, this]
    simp
  exact run_convert_bytes_back _ 46 9 5 ⟨w.heap.size, 0, none⟩ 4 (four8 x) Tryd.underlying46 Tryd.underlying5 Tryd.underlying9 hc
/-- Four bytes, as a text. -/
def fourB (x : Nat) : ByteArray := ⟨(four8 x).toArray⟩
theorem fourB_size (x : Nat) : (fourB x).size = 4 := rfl
theorem fourBytes_any (x : Nat) (w : World) (hx : x < 4294967296) : Calls Tryd.prog 84 #[.int .u32 x] w fun e w' => e = .returned (.string (fourB x)) ∧ Below w.heap.size w w' := by
  have hcv := fun w => four8_conv x w hx
  go_enter Tryd.func84, Tryd.ntmps84
  go_wp2
  go_ret
  exact ⟨rfl, (Below.refl _ _).alloc (Nat.le_refl _) _⟩

/-- The text filled to whole blocks, as a text. -/
def padB (s : ByteArray) : ByteArray := ⟨(padL s.data.toList).toArray⟩
/-- So many bytes 0. -/
def zeroB (n : Nat) : ByteArray := ⟨(List.replicate n (0 : UInt8)).toArray⟩
theorem zeroB_size (n : Nat) : (zeroB n).size = n := by show (List.replicate n (0 : UInt8)).toArray.size = n; simp
theorem repeat_zero (n : Nat) (w : World) (hn : n < 64) : Calls Tryd.prog 57 #[.string ⟨#[0]⟩, .int .i64 n] w fun e w' => e = .returned (.string (zeroB n)) ∧ Below w.heap.size w w' := by
  refine (Tryd.strings_Repeat ⟨#[0]⟩ n w (by omega) (by show 1 * n ≤ _; omega)).mono ?_
  rintro e w1 ⟨rfl, hb⟩
  refine ⟨?_, hb⟩
  have : ∀ m : Nat, Lib.repeatL [(0 : UInt8)] m = List.replicate m 0 := by
    intro m
    induction m with
    | zero => rfl
    | succ m ih => rw [Lib.repeatL, ih]; rfl
  show Ending.returned (.string ⟨(Lib.repeatL [(0 : UInt8)] n).toArray⟩) = _
  rw [this]
  rfl

theorem pad_is (s : ByteArray) (n fl gp hi lo : Nat) (hs : s.size ≤ 1000000000000) (hn : s.size = n) (hf : (n + 9) % 64 = fl) (hg : (64 - fl) % 64 = gp) (hh : n * 8 / 4294967296 = hi) (hl : n * 8 % 4294967296 = lo) :
    s ++ ⟨#[128]⟩ ++ zeroB gp ++ (fourB hi ++ fourB lo) = padB s := by
  apply ByteArray.ext
  have e : padL s.data.toList = s.data.toList ++ (128 :: (List.replicate gp (0 : UInt8) ++ (four8 hi ++ four8 lo))) := by
    have h1 : s.data.toList.length = n := hn
    unfold padL padTail
    rw [h1, hf, hg]
    have b : ∀ x y : Nat, x % 256 = y % 256 → UInt8.ofNat x = UInt8.ofNat y := fun x y h => by
      apply UInt8.toNat_inj.1
      rw [UInt8.toNat_ofNat', UInt8.toNat_ofNat']
      exact h
    unfold four8
    congr 3
    simp only [List.cons_append, List.nil_append]
    rw [b (8 * n / 72057594037927936) (hi / 16777216 % 256) (by omega), b (8 * n / 281474976710656) (hi / 65536 % 256) (by omega), b (8 * n / 1099511627776) (hi / 256 % 256) (by omega), b (8 * n / 4294967296) (hi % 256) (by omega),
      b (8 * n / 16777216) (lo / 16777216 % 256) (by omega), b (8 * n / 65536) (lo / 65536 % 256) (by omega), b (8 * n / 256) (lo / 256 % 256) (by omega), b (8 * n) (lo % 256) (by omega)]
  unfold padB
  rw [e]
  simp [zeroB, fourB, ByteArray.data_append]

theorem fourBytes_int (x : Int) (w : World) (h0 : 0 ≤ x) (hx : x < 4294967296) : Calls Tryd.prog 84 #[.int .u32 x] w fun e w' => e = .returned (.string (fourB x.toNat)) ∧ Below w.heap.size w w' := by
  obtain ⟨n, rfl⟩ := Int.eq_ofNat_of_zero_le h0
  exact fourBytes_any n w (by omega)
set_option maxHeartbeats 800000 in
theorem implPad_any (s : ByteArray) (w : World) (hs : s.size ≤ 1000000000000) : Calls Tryd.prog 71 #[.string s] w fun e w' => e = .returned (.string (padB s)) ∧ Below w.heap.size w w' := by
  obtain ⟨n, hn⟩ : ∃ n, s.size = n := ⟨_, rfl⟩
  obtain ⟨fl, hf⟩ : ∃ y, (n + 9) % 64 = y := ⟨_, rfl⟩
  obtain ⟨gp, hg⟩ : ∃ y, (64 - fl) % 64 = y := ⟨_, rfl⟩
  obtain ⟨hi, hh⟩ : ∃ y, n * 8 / 4294967296 = y := ⟨_, rfl⟩
  obtain ⟨lo, hl⟩ : ∃ y, n * 8 % 4294967296 = y := ⟨_, rfl⟩
  have HP : Hid (s ++ ⟨#[128]⟩ ++ zeroB gp ++ (fourB hi ++ fourB lo) = padB s) := pad_is s n fl gp hi lo hs hn hf hg hh hl
  have hgl : gp < 64 := by omega
  have i1 : ((n : Int) + 1 + 8) % 64 = (fl : Int) := by omega
  have i2 : (64 - (fl : Int)) % 64 = (gp : Int) := by omega
  have i3 : (n : Int) * 8 / 4294967296 = (hi : Int) := by omega
  have i4 : (n : Int) * 8 % 4294967296 = (lo : Int) := by omega
  have hhl : hi < 4294967296 := by omega
  have hll : lo < 4294967296 := by omega
  have hfl : fl < 64 := by omega
  have z1 := fourB_size hi
  have z2 := fourB_size lo
  have z3 := zeroB_size gp
  clear hf hg hh hl
  go_enter Tryd.func71, Tryd.ntmps71
  go_wp2_with fail
  refine (fourBytes_any hi _ hhl).mono ?_
  rintro e w1 ⟨rfl, hb1⟩
  go_wp2_with fail
  refine (fourBytes_any lo _ hll).mono ?_
  rintro e w2 ⟨rfl, hb2⟩
  have HB2 : Hid (Below w.heap.size w w2) := hb1.trans (hb2.mono hb1.size)
  clear hb1 hb2
  go_wp2_with fail
  refine (repeat_zero gp _ hgl).mono ?_
  rintro e w3 ⟨rfl, hb3⟩
  have HB3 : Hid (Below w.heap.size w w3) := HB2.out.trans (hb3.mono HB2.out.size)
  clear hb3 HB2
  go_wp2_with fail
  go_ret
  exact ⟨by rw [← HP.out]; rfl, HB3.out⟩
end Go.Proofs.YtoildgknpfehoaaDoor
