package tests

import (
	"encoding/binary"
	"hash/crc32"
	"math"
	"slices"
	"strings"
	"testing"

	"loop.example/g00394/impl"
)

// stepByStep: a sum as the document tells it, bit by bit.
func stepByStep(sum uint32, text string) uint32 {
	for _, b := range []byte(text) {
		sum ^= uint32(b)
		for range 8 {
			odd := sum%2 == 1
			sum /= 2
			if odd {
				sum ^= 3558460437
			}
		}
	}
	return sum
}

// sealByHand: a text and its sum by the library, the highest byte first.
func sealByHand(text string) string {
	sum := ^crc32.Checksum([]byte(text), crc32.MakeTable(3558460437))
	return text + string(binary.BigEndian.AppendUint32(nil, sum))
}

func sumsToTry() []uint32 {
	list := []uint32{0, math.MaxUint32, math.MaxUint32 - 1, 3558460437, 0x12345678, 0xdeadbeef}
	for bit := range 32 {
		list = append(list, 1<<bit, 1<<bit-1, ^uint32(1<<bit))
	}
	return list
}

func TestSumMore(t *testing.T) {
	cases := []struct {
		sum  uint32
		text string
		want uint32
	}{
		{0, "", 0}, {1, "", 1}, {math.MaxUint32, "", math.MaxUint32}, {3558460437, "", 3558460437},
		{0, "\x00", 0}, {0, "\x80", 3558460437}, {128, "\x00", 3558460437}, {0x80, "\x80", 0}, {256, "\x00", 1},
		{0, "\x00\x00\x80", 3558460437}, {math.MaxUint32, "\xff\xff\xff\xff", 0},
	}
	for _, c := range cases {
		if got := impl.SumMore(c.sum, c.text); got != c.want {
			t.Errorf("SumMore(%d, %q) = %d, want %d", c.sum, c.text, got, c.want)
		}
	}
	table := crc32.MakeTable(3558460437)
	for _, sum := range sumsToTry() {
		for _, text := range append(textsToTry(), longTexts()[0]) {
			got := impl.SumMore(sum, text)
			if want := ^crc32.Update(^sum, table, []byte(text)); got != want {
				t.Fatalf("SumMore(%d, a text of %d bytes) = %d, want %d", sum, len(text), got, want)
			}
			if len(text) < 300 && got != stepByStep(sum, text) {
				t.Fatalf("SumMore(%d, %q) = %d, not as bit by bit", sum, text, got)
			}
		}
	}
}

func TestSumOf(t *testing.T) {
	if got := impl.SumOf(""); got != 4294967295 {
		t.Errorf("SumOf nothing = %d", got)
	}
	// The check value of this sum (CRC-32D), which is turned over there at the end.
	if got := impl.SumOf("123456789"); got != ^uint32(0x87315576) {
		t.Errorf("SumOf(123456789) = %#x", got)
	}
	for _, text := range append(textsToTry(), longTexts()...) {
		got := impl.SumOf(text)
		if got != stepByStep(4294967295, text) || got != impl.SumMore(4294967295, text) {
			t.Fatalf("SumOf of %d bytes = %d", len(text), got)
		}
	}
}

func TestSumMoreGoesOn(t *testing.T) {
	for _, text := range textsToTry() {
		whole := impl.SumOf(text)
		for _, cut := range []int{0, 1, 2, 3, len(text) / 2, len(text) - 1, len(text)} {
			if cut < 0 || cut > len(text) {
				continue
			}
			if got := impl.SumMore(impl.SumOf(text[:cut]), text[cut:]); got != whole {
				t.Fatalf("the sum of %d bytes cut at %d = %d, want %d", len(text), cut, got, whole)
			}
		}
	}
	text := "in three pieces, or byte by byte"
	for _, sum := range sumsToTry() {
		pieces := sum
		for i := range text {
			pieces = impl.SumMore(pieces, text[i:i+1])
		}
		if got := impl.SumMore(sum, text); got != pieces {
			t.Fatalf("SumMore(%d, ..) = %d at once, %d byte by byte", sum, got, pieces)
		}
	}
}

func checkUnsealed(t *testing.T, text, want string, ok bool) {
	t.Helper()
	if got, gotOk := impl.Unsealed(text); got != want || gotOk != ok {
		t.Errorf("Unsealed(%.40q) of %d bytes = %.40q %v, want %.40q %v", text, len(text), got, gotOk, want, ok)
	}
}

func TestSealed(t *testing.T) {
	if got, ok := impl.Sealed(""); !ok || got != "\xff\xff\xff\xff" {
		t.Errorf("Sealed of nothing = %q %v", got, ok)
	}
	for _, text := range textsToTry() {
		want := sealByHand(text)
		if got, ok := impl.Sealed(text); !ok || got != want {
			t.Fatalf("Sealed of %d bytes = %d bytes %v", len(text), len(got), ok)
		}
		checkUnsealed(t, want, text, true)
	}
	for _, text := range longTexts() {
		if got, ok := impl.Sealed(text); ok || got != "" {
			t.Errorf("Sealed of %d bytes = %d bytes %v, want a whole refusal", len(text), len(got), ok)
		}
		checkUnsealed(t, sealByHand(text), "", false)
	}
}

func TestUnsealedLengths(t *testing.T) {
	for _, text := range []string{"", "a", "\x00", "\xff", "ab", "\xff\xff", "abc", "\xff\xff\xff", "\x00\x00\x00"} {
		checkUnsealed(t, text, "", false)
	}
	checkUnsealed(t, "\xff\xff\xff\xff", "", true)
	for _, text := range []string{"\x00\x00\x00\x00", "\xff\xff\xff\xfe", "\x7f\xff\xff\xff", "abcd"} {
		checkUnsealed(t, text, "", false)
	}
	for _, text := range []string{"", "a", "abc", "\x00", "\x00\x00\x00\x00", "1234567890"} {
		sealed := sealByHand(text)
		for cut := range len(sealed) {
			checkUnsealed(t, sealed[:cut], "", false)
		}
		for _, more := range []string{"\x00", "a", "\xff"} {
			checkUnsealed(t, sealed+more, "", false)
			checkUnsealed(t, more+sealed, "", false)
			checkUnsealed(t, text+more+sealed[len(text):], "", false)
		}
		checkUnsealed(t, text, "", false)
	}
}

func TestUnsealedOrderOfBytes(t *testing.T) {
	for _, text := range []string{"abc", "123456789", "\x00", strings.Repeat("ab", impl.MaxText/2)} {
		sealed := sealByHand(text)
		seal := []byte(sealed[len(text):])
		orders := [][]int{{3, 2, 1, 0}, {1, 0, 3, 2}, {2, 3, 0, 1}, {0, 1, 3, 2}, {1, 0, 2, 3}, {0, 2, 1, 3}, {1, 2, 3, 0}, {3, 0, 1, 2}}
		for _, order := range orders {
			other := []byte{}
			for _, place := range order {
				other = append(other, seal[place])
			}
			if !slices.Equal(other, seal) {
				checkUnsealed(t, text+string(other), "", false)
			}
		}
		over := []byte{^seal[0], ^seal[1], ^seal[2], ^seal[3]}
		checkUnsealed(t, text+string(over), "", false)
		checkUnsealed(t, string(seal)+text, "", false)
	}
}

// TestUnsealedTurned turns each byte of sealed texts, those of the sum among them, into each other byte.
func TestUnsealedTurned(t *testing.T) {
	for _, text := range []string{"", "a", "\x00", "\xff\xff\xff\xff", "abc", "who may be believed", strings.Repeat("\x00", 70)} {
		sealed := []byte(sealByHand(text))
		for place := range sealed {
			for turn := 1; turn < 256; turn++ {
				sealed[place] ^= byte(turn)
				checkUnsealed(t, string(sealed), "", false)
				sealed[place] ^= byte(turn)
			}
		}
	}
	long := []byte(sealByHand(strings.Repeat("long ", impl.MaxText/5)))
	for _, place := range []int{0, 1, 2, 3, 9999, impl.MaxText - 1, impl.MaxText, impl.MaxText + 1, impl.MaxText + 3} {
		for _, turn := range []byte{1, 2, 16, 128, 255} {
			long[place] ^= turn
			checkUnsealed(t, string(long), "", false)
			long[place] ^= turn
		}
	}
}

func TestSumsAnswersAreNewMemory(t *testing.T) {
	text := strings.Repeat("some", 2)
	sealed, _ := impl.Sealed(text)
	if shares(sealed, text) {
		t.Error("Sealed hands out its argument")
	}
	if got, ok := impl.Unsealed(sealed); !ok || shares(got, sealed) {
		t.Error("Unsealed hands out a piece of its argument")
	}
}
