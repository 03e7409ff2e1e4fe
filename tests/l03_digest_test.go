package tests

import (
	"crypto/sha256"
	"encoding"
	"encoding/binary"
	"encoding/hex"
	"math"
	"math/big"
	"slices"
	"strings"
	"testing"

	"loop.example/g00394/impl"
)

// textOfSize: a text whose bytes are not alike from block to block.
func textOfSize(size int) string {
	text := make([]byte, size)
	for i := range text {
		text[i] = byte(i*7 + i/256 + i/64*31)
	}
	return string(text)
}

// textsToDigest: every length up to some blocks, with those that just fill one, and long ones.
func textsToDigest() []string {
	list := append(textsToTry(), longTexts()...)
	for size := range 5*impl.BlockSize + 2 {
		list = append(list, textOfSize(size), strings.Repeat("\x00", size), strings.Repeat("\xff", size), strings.Repeat("\x80", size))
	}
	for _, blocks := range []int{16, 17, 128, 1024} {
		for _, less := range []int{-1, 0, 1, 8, 9, 10} {
			list = append(list, textOfSize(blocks*impl.BlockSize-less))
		}
	}
	return list
}

// padByHand: byte by byte, as the document tells it.
func padByHand(text string) string {
	padded := append([]byte(text), 128)
	for len(padded)%64 != 56 {
		padded = append(padded, 0)
	}
	return string(binary.BigEndian.AppendUint64(padded, 8*uint64(len(text))))
}

func TestPadText(t *testing.T) {
	if got := impl.PadText(""); got != "\x80"+strings.Repeat("\x00", 63) {
		t.Errorf("PadText of nothing = %q", got)
	}
	if got := impl.PadText("abc"); got != "abc\x80"+strings.Repeat("\x00", 59)+"\x18" {
		t.Errorf("PadText(abc) = %q", got)
	}
	blocks := map[int]int{55: 1, 56: 2, 63: 2, 64: 2, 65: 2, 119: 2, 120: 3, 127: 3, 128: 3}
	for size, count := range blocks {
		if got := impl.PadText(textOfSize(size)); len(got) != count*impl.BlockSize {
			t.Errorf("PadText of %d bytes has %d bytes, want %d blocks", size, len(got), count)
		}
	}
	for _, text := range textsToDigest() {
		if got := impl.PadText(text); got != padByHand(text) {
			t.Fatalf("PadText of %d bytes is wrong: %d bytes", len(text), len(got))
		}
	}
}

func TestDigestConstants(t *testing.T) {
	if impl.DigestSize != 32 || impl.BlockSize != 64 {
		t.Errorf("DigestSize %d, BlockSize %d", impl.DigestSize, impl.BlockSize)
	}
}

// startByRoots: of the square roots of the first eight primes, 32 bits behind the point.
func startByRoots() []int {
	list := []int{}
	for _, prime := range []int64{2, 3, 5, 7, 11, 13, 17, 19} {
		root := new(big.Int).Sqrt(new(big.Int).Lsh(big.NewInt(prime), 64))
		list = append(list, int(uint32(root.Uint64())))
	}
	return list
}

func TestShaStart(t *testing.T) {
	want := []int{1779033703, 3144134277, 1013904242, 2773480762, 1359893119, 2600822924, 528734635, 1541459225}
	if got := impl.ShaStart(); !slices.Equal(got, want) || !slices.Equal(got, startByRoots()) {
		t.Errorf("ShaStart = %d, want %d", got, want)
	}
}

// blockByLibrary sets the library's own digest to a state, and reads it again behind one block.
func blockByLibrary(t *testing.T, state []int, block string) []int {
	t.Helper()
	kept := []byte("sha\x03")
	for _, n := range state {
		kept = binary.BigEndian.AppendUint32(kept, uint32(n))
	}
	kept = append(kept, make([]byte, 64+8)...)
	hash := sha256.New()
	if err := hash.(encoding.BinaryUnmarshaler).UnmarshalBinary(kept); err != nil {
		t.Fatal(err)
	}
	hash.Write([]byte(block))
	kept, err := hash.(encoding.BinaryMarshaler).MarshalBinary()
	if err != nil {
		t.Fatal(err)
	}
	list := []int{}
	for i := range 8 {
		list = append(list, int(binary.BigEndian.Uint32(kept[4+4*i:])))
	}
	return list
}

func statesToTry() [][]int {
	list := [][]int{impl.ShaStart(), make([]int, 8), slices.Repeat([]int{math.MaxUint32}, 8), {0, 1, 2, 3, 4, 5, 6, 7}}
	list = append(list, []int{math.MaxUint32, 0, math.MaxUint32, 0, math.MaxUint32, 0, math.MaxUint32, 0})
	for place := range 8 {
		for _, n := range []int{0, 1, 1 << 31, math.MaxUint32 - 1, math.MaxUint32} {
			zero, start := make([]int, 8), impl.ShaStart()
			zero[place], start[place] = n, n
			list = append(list, zero, start)
		}
	}
	return list
}

func blocksToTry() []string {
	list := []string{textOfSize(64), textOfSize(300)[200:264], strings.Repeat("\x00", 64), strings.Repeat("\xff", 64), strings.Repeat("\x80", 64), impl.PadText("abc")}
	for place := range 64 {
		block := make([]byte, 64)
		block[place] = byte(1 + 2*place)
		list = append(list, string(block))
	}
	return list
}

func TestShaBlock(t *testing.T) {
	// The digest of "abc", in its eight numbers.
	want := []int{0xba7816bf, 0x8f01cfea, 0x414140de, 0x5dae2223, 0xb00361a3, 0x96177a9c, 0xb410ff61, 0xf20015ad}
	if got := impl.ShaBlock(impl.ShaStart(), impl.PadText("abc")); !slices.Equal(got, want) {
		t.Errorf("ShaBlock of the start and abc = %x", got)
	}
	for _, state := range statesToTry() {
		for _, block := range blocksToTry() {
			want := blockByLibrary(t, state, block)
			if got := impl.ShaBlock(state, block); !slices.Equal(got, want) {
				t.Fatalf("ShaBlock(%d, %q) = %d, want %d", state, block, got, want)
			}
		}
	}
}

// checkAsItIs: the state comes back as it is, in memory of its own.
func checkAsItIs(t *testing.T, state []int, block string) {
	t.Helper()
	before := slices.Clone(state)
	got := impl.ShaBlock(state, block)
	if !slices.Equal(got, before) || !slices.Equal(state, before) {
		t.Errorf("ShaBlock(%d, %d bytes) = %d, want it as it is", before, len(block), got)
	}
	if len(got) > 0 && len(state) > 0 {
		got[0]++
		if !slices.Equal(state, before) {
			t.Errorf("ShaBlock(%d, %d bytes) hands out its argument", before, len(block))
		}
	}
}

func TestShaBlockAsItIs(t *testing.T) {
	block := textOfSize(64)
	start := impl.ShaStart()
	wrong := [][]int{nil, {}, {0}, start[:7], append(slices.Clone(start), 0), append(slices.Clone(start), start...), {-1}, {math.MaxInt, math.MinInt}}
	for place := range 8 {
		for _, n := range []int{-1, -2, math.MaxUint32 + 1, math.MaxUint32 + 2, -math.MaxUint32, math.MinInt, math.MaxInt, 1 << 32, 1 << 33} {
			state := impl.ShaStart()
			state[place] = n
			wrong = append(wrong, state)
		}
	}
	for _, state := range wrong {
		checkAsItIs(t, state, block)
		checkAsItIs(t, state, "")
	}
	for _, size := range []int{0, 1, 32, 62, 63, 65, 66, 127, 128, 192} {
		for _, state := range statesToTry() {
			checkAsItIs(t, state, textOfSize(size))
		}
	}
}

func TestDigest(t *testing.T) {
	known := []struct{ text, want string }{
		{"", "e3b0c44298fc1c149afbf4c8996fb92427ae41e4649b934ca495991b7852b855"},
		{"abc", "ba7816bf8f01cfea414140de5dae2223b00361a396177a9cb410ff61f20015ad"},
		{"abcdbcdecdefdefgefghfghighijhijkijkljklmklmnlmnomnopnopq", "248d6a61d20638b8e5c026930c3e6039a33ce45964ff2167f6ecedd419db06c1"},
		{strings.Repeat("a", 1000000), "cdc76e5c9914fb9281a1c7e284d73e67f1809a48a497200e046d39ccc7112cd0"},
	}
	for _, c := range known {
		if got := impl.DigestHex(c.text); got != c.want {
			t.Errorf("DigestHex(%.40q) = %s", c.text, got)
		}
	}
	for _, text := range textsToDigest() {
		want := sha256.Sum256([]byte(text))
		if got := impl.Digest(text); got != string(want[:]) {
			t.Fatalf("Digest of %d bytes = %x, want %x", len(text), got, want)
		}
		if got := impl.DigestHex(text); got != hex.EncodeToString(want[:]) {
			t.Fatalf("DigestHex of %d bytes = %s, want %x", len(text), got, want)
		}
	}
}

// TestDigestIsItsBlocks: a digest is what the listed functions make of it, block by block.
func TestDigestIsItsBlocks(t *testing.T) {
	for _, size := range []int{0, 1, 55, 56, 63, 64, 65, 119, 120, 128, 1000} {
		text := textOfSize(size)
		padded, state := impl.PadText(text), impl.ShaStart()
		for at := 0; at < len(padded); at += impl.BlockSize {
			state = impl.ShaBlock(state, padded[at:at+impl.BlockSize])
		}
		want := []byte{}
		for _, n := range state {
			want = binary.BigEndian.AppendUint32(want, uint32(n))
		}
		if got := impl.Digest(text); got != string(want) {
			t.Errorf("Digest of %d bytes = %x, its blocks make %x", size, got, want)
		}
	}
}

func TestCutDigest(t *testing.T) {
	for _, size := range []int{0, 3, 55, 56, 64, 20001} {
		text := textOfSize(size)
		whole := sha256.Sum256([]byte(text))
		for w := 1; w <= impl.DigestSize; w++ {
			if got := impl.CutDigest(text, w); got != string(whole[:w]) {
				t.Errorf("CutDigest of %d bytes to %d = %x, want %x", size, w, got, whole[:w])
			}
		}
		for _, w := range []int{0, -1, -2, -32, impl.DigestSize + 1, impl.DigestSize + 2, impl.BlockSize, math.MinInt, math.MaxInt, 1<<32 + 1, -1<<32 + 1} {
			if got := impl.CutDigest(text, w); got != "" {
				t.Errorf("CutDigest of %d bytes to %d = %x, want nothing", size, w, got)
			}
		}
	}
}

func TestDigestAnswersAreNewMemory(t *testing.T) {
	first := impl.ShaStart()
	for i := range first {
		first[i] = -1
	}
	if got := impl.ShaStart(); !slices.Equal(got, startByRoots()) {
		t.Errorf("ShaStart = %d, when the one before was written to", got)
	}
	// The spare room behind a state is not written to either.
	for _, size := range []int{7, 8, 9} {
		room := slices.Repeat([]int{5}, 20)
		for _, block := range []string{"", textOfSize(64)} {
			got := impl.ShaBlock(room[:size], block)
			got = append(got, 6)
			got[0] = 6
			if !slices.Equal(room, slices.Repeat([]int{5}, 20)) {
				t.Errorf("ShaBlock of %d numbers and %d bytes writes to its argument: %d", size, len(block), room)
			}
		}
	}
	text := textOfSize(64)
	if shares(impl.PadText(text), text) {
		t.Error("PadText hands out its argument")
	}
}
