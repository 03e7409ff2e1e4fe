/-
  Texts of the proof.
-/
import Derived.WalkKit
import Derived.Test.YtjgbmnhoajiabaaGreatDoorSQ16
import Derived.Test.YtjgbmnhoajiabaaGreatDoorSQ29
namespace Go.Proofs.YtjgbmnhoajiabaaGreatDoor
open Go.RowKit
def readL (s : ByteArray) : List Int := if s.size <= 60 then digs (horn 256 (bytesI s)) else []
theorem readL_len2 (s : ByteArray) : (readL s).length <= 40 := readL_len s
theorem specReadL_any (s : ByteArray) (w : World) (hs : s.size <= 1048576) :
  Calls Tryz.prog 160 #[.string s] w fun e w' => ∃ v, e = .returned v /\ OwnI w' w.heap.size v (readL s) /\ Below w.heap.size w w' := specReadN_any s w hs
theorem implReadL_any (s : ByteArray) (w : World) (hs : s.size <= 1048576) :
  Calls Tryz.prog 112 #[.string s] w fun e w' => ∃ v, e = .returned v /\ OwnI w' w.heap.size v (readL s) /\ Below w.heap.size w w' := implReadN_any s w hs
theorem below_on {a b c : World} (h1 : Below a.heap.size a b) (h2 : Below b.heap.size b c) : Below a.heap.size a c := h1.trans (h2.mono h1.size)
end Go.Proofs.YtjgbmnhoajiabaaGreatDoor
namespace Go.Proofs.YtjgbmnhoajiabaaGreatDoor
def rotr (k x : Nat) : Nat := (x / 2 ^ k) ||| (x * 2 ^ (32 - k) % 4294967296)
def bigS1 (e : Nat) : Nat := rotr 6 e ^^^ rotr 11 e ^^^ rotr 25 e
def bigS0 (e : Nat) : Nat := rotr 2 e ^^^ rotr 13 e ^^^ rotr 22 e
def smS0 (e : Nat) : Nat := rotr 7 e ^^^ rotr 18 e ^^^ (e / 8)
def smS1 (e : Nat) : Nat := rotr 17 e ^^^ rotr 19 e ^^^ (e / 1024)
def chN (e f g : Nat) : Nat := (e &&& f) ^^^ ((e ^^^ 4294967295) &&& g)
def majN (a b c : Nat) : Nat := (a &&& b) ^^^ (a &&& c) ^^^ (b &&& c)
structure St where
 a : Nat
 b : Nat
 c : Nat
 d : Nat
 e : Nat
 f : Nat
 g : Nat
 h : Nat
def oneN (k w : Nat) (s : St) : Nat := (s.h + bigS1 s.e + chN s.e s.f s.g + k + w) % 4294967296
def twoN (s : St) : Nat := (bigS0 s.a + majN s.a s.b s.c) % 4294967296
def rnd (k w : Nat) (s : St) : St := ⟨(oneN k w s + twoN s) % 4294967296, s.a, s.b, s.c, (s.d + oneN k w s) % 4294967296, s.e, s.f, s.g⟩
def keysN : List Nat := [1116352408, 1899447441, 3049323471, 3921009573, 961987163, 1508970993, 2453635748, 2870763221, 3624381080, 310598401, 607225278, 1426881987, 1925078388, 2162078206, 2614888103, 3248222580, 3835390401, 4022224774, 264347078, 604807628, 770255983, 1249150122, 1555081692, 1996064986, 2554220882, 2821834349, 2952996808, 3210313671, 3336571891, 3584528711, 113926993, 338241895, 666307205, 773529912, 1294757372, 1396182291, 1695183700, 1986661051, 2177026350, 2456956037, 2730485921, 2820302411, 3259730800, 3345764771, 3516065817, 3600352804, 4094571909, 275423344, 430227734, 506948616, 659060556, 883997877, 958139571, 1322822218, 1537002063, 1747873779, 1955562222, 2024104815, 2227730452, 2361852424, 2428436474, 2756734187, 3204031479, 3329325298]
def firstN : St := ⟨1779033703, 3144134277, 1013904242, 2773480762, 1359893119, 2600822924, 528734635, 1541459225⟩
def wordOf (b : List UInt8) (i : Nat) : Nat := (b.getD (4 * i) 0).toNat * 16777216 + (b.getD (4 * i + 1) 0).toNat * 65536 + (b.getD (4 * i + 2) 0).toNat * 256 + (b.getD (4 * i + 3) 0).toNat
def wd (b : List UInt8) (i : Nat) : Nat :=
 if h : i < 16 then wordOf b i else (wd b (i - 16) + smS0 (wd b (i - 15)) + wd b (i - 7) + smS1 (wd b (i - 2))) % 4294967296
def rounds (b : List UInt8) : Nat -> St -> St
 | 0, s => s
 | n + 1, s => rnd (keysN.getD n 0) (wd b n) (rounds b n s)
def addSt (s t : St) : St := ⟨(s.a + t.a) % 4294967296, (s.b + t.b) % 4294967296, (s.c + t.c) % 4294967296, (s.d + t.d) % 4294967296, (s.e + t.e) % 4294967296, (s.f + t.f) % 4294967296, (s.g + t.g) % 4294967296, (s.h + t.h) % 4294967296⟩
def blockN (s : St) (b : List UInt8) : St := addSt s (rounds b 64 s)
def blocksN (s : St) (p : List UInt8) : Nat -> St
 | 0 => s
 | n + 1 => blockN (blocksN s p n) ((p.drop (64 * n)).take 64)
def St.ok (s : St) : Prop := s.a < 4294967296 /\ s.b < 4294967296 /\ s.c < 4294967296 /\ s.d < 4294967296 /\ s.e < 4294967296 /\ s.f < 4294967296 /\ s.g < 4294967296 /\ s.h < 4294967296
theorem and_lt32 {a b : Nat} (ha : a < 4294967296) : a &&& b < 4294967296 := Nat.lt_of_le_of_lt Nat.and_le_left ha
theorem xor_lt32 {a b : Nat} (ha : a < 4294967296) (hb : b < 4294967296) : a ^^^ b < 4294967296 := Nat.xor_lt_two_pow (n := 32) ha hb
theorem or_lt32 {a b : Nat} (ha : a < 4294967296) (hb : b < 4294967296) : a ||| b < 4294967296 := Nat.or_lt_two_pow (n := 32) ha hb
theorem div_lt32 {x : Nat} (k : Nat) (h : x < 4294967296) : x / 2 ^ k < 4294967296 := Nat.lt_of_le_of_lt (Nat.div_le_self _ _) h
theorem rotr_lt (k : Nat) {x : Nat} (h : x < 4294967296) : rotr k x < 4294967296 := or_lt32 (div_lt32 k h) (Nat.mod_lt _ (by decide))
theorem bigS1_lt {x : Nat} (h : x < 4294967296) : bigS1 x < 4294967296 := xor_lt32 (xor_lt32 (rotr_lt _ h) (rotr_lt _ h)) (rotr_lt _ h)
theorem bigS0_lt {x : Nat} (h : x < 4294967296) : bigS0 x < 4294967296 := xor_lt32 (xor_lt32 (rotr_lt _ h) (rotr_lt _ h)) (rotr_lt _ h)
theorem smS1_lt {x : Nat} (h : x < 4294967296) : smS1 x < 4294967296 := xor_lt32 (xor_lt32 (rotr_lt _ h) (rotr_lt _ h)) (by omega)
theorem smS0_lt {x : Nat} (h : x < 4294967296) : smS0 x < 4294967296 := xor_lt32 (xor_lt32 (rotr_lt _ h) (rotr_lt _ h)) (by omega)
theorem chN_lt {e f g : Nat} (he : e < 4294967296) : chN e f g < 4294967296 := xor_lt32 (and_lt32 he) (and_lt32 (xor_lt32 he (by decide)))
theorem majN_lt {a b c : Nat} (ha : a < 4294967296) (hb : b < 4294967296) : majN a b c < 4294967296 := xor_lt32 (xor_lt32 (and_lt32 ha) (and_lt32 ha)) (and_lt32 hb)
theorem rnd_ok {s : St} (k w : Nat) (h : s.ok) : (rnd k w s).ok := ⟨Nat.mod_lt _ (by decide), h.1, h.2.1, h.2.2.1, Nat.mod_lt _ (by decide), h.2.2.2.2.1, h.2.2.2.2.2.1, h.2.2.2.2.2.2.1⟩
theorem rounds_ok (b : List UInt8) (n : Nat) {s : St} (h : s.ok) : (rounds b n s).ok := by
 induction n with
 | zero => exact h
 | succ n ih => exact rnd_ok _ _ ih
theorem addSt_ok (s t : St) : (addSt s t).ok := by refine ⟨?_, ?_, ?_, ?_, ?_, ?_, ?_, ?_⟩ <;> exact Nat.mod_lt _ (by decide)
theorem blockN_ok (s : St) (b : List UInt8) : (blockN s b).ok := addSt_ok _ _
theorem firstN_ok : firstN.ok := by unfold St.ok firstN; decide
theorem blocksN_ok {s : St} (p : List UInt8) (n : Nat) (h : s.ok) : (blocksN s p n).ok := by
 cases n with
 | zero => exact h
 | succ n => exact blockN_ok _ _
theorem wordOf_lt (b : List UInt8) (i : Nat) : wordOf b i < 4294967296 := by
 unfold wordOf
 have h1 := (b.getD (4 * i) 0).toNat_lt
 have h2 := (b.getD (4 * i + 1) 0).toNat_lt
 have h3 := (b.getD (4 * i + 2) 0).toNat_lt
 have h4 := (b.getD (4 * i + 3) 0).toNat_lt
 omega
theorem wd_lt (b : List UInt8) (i : Nat) : wd b i < 4294967296 := by
 rw [wd]
 split
 ·exact wordOf_lt _ _
 ·exact Nat.mod_lt _ (by decide)
theorem wd_lo (b : List UInt8) {i : Nat} (h : i < 16) : wd b i = wordOf b i := by rw [wd, dif_pos h]
theorem wd_hi (b : List UInt8) (i : Nat) : wd b (i + 16) = (wd b i + smS0 (wd b (i + 1)) + wd b (i + 9) + smS1 (wd b (i + 14))) % 4294967296 := by
 rw [wd, dif_neg (by omega)]
 simp only [show i + 16 - 16 = i by omega, show i + 16 - 15 = i + 1 by omega, show i + 16 - 7 = i + 9 by omega, show i + 16 - 2 = i + 14 by omega]
theorem keysN_len : keysN.length = 64 := rfl
theorem keysN_lt (k : Nat) : keysN.getD k 0 < 4294967296 := by
 have : ∀ x ∈ keysN, x < 4294967296 := by unfold keysN; decide
 rw [List.getD_eq_getElem?_getD]
 cases h : keysN[k]? with
 | none => simp
 | some x => exact this x (List.mem_of_getElem? h)
def padTail (n : Nat) : List UInt8 := 128 :: (List.replicate ((64 - (n + 9) % 64) % 64) 0 ++ [UInt8.ofNat (8 * n / 72057594037927936), UInt8.ofNat (8 * n / 281474976710656), UInt8.ofNat (8 * n / 1099511627776), UInt8.ofNat (8 * n / 4294967296), UInt8.ofNat (8 * n / 16777216), UInt8.ofNat (8 * n / 65536), UInt8.ofNat (8 * n / 256), UInt8.ofNat (8 * n)])
def padL (t : List UInt8) : List UInt8 := t ++ padTail t.length
theorem padTail_len (n : Nat) : (padTail n).length = 9 + (64 - (n + 9) % 64) % 64 := by simp [padTail]; omega
def four8 (x : Nat) : List UInt8 := [UInt8.ofNat (x / 16777216 % 256), UInt8.ofNat (x / 65536 % 256), UInt8.ofNat (x / 256 % 256), UInt8.ofNat (x % 256)]
def bytesOfSt (s : St) : List UInt8 := four8 s.a ++ four8 s.b ++ four8 s.c ++ four8 s.d ++ four8 s.e ++ four8 s.f ++ four8 s.g ++ four8 s.h
def digSt (t : List UInt8) : St := blocksN firstN (padL t) ((padL t).length / 64)
def digL (t : List UInt8) : List UInt8 := bytesOfSt (digSt t)
end Go.Proofs.YtjgbmnhoajiabaaGreatDoor
