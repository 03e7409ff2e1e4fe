package tests

import (
	"encoding/binary"
	"encoding/hex"
	"math"
	"slices"
	"strconv"
	"strings"
	"testing"
	"unsafe"

	"loop.example/g00394/impl"
)

func TestWordsLimits(t *testing.T) {
	got := []int{impl.MaxText, impl.MaxNumber, impl.MaxWords, impl.MaxParts}
	if want := []int{20000, 1000000000, 600, 10}; !slices.Equal(got, want) {
		t.Errorf("limits %v, want %v", got, want)
	}
}

// numbersToTry: every number of one or two bytes and some of three, each power of 2 and of 10 with its neighbours, and the limit.
func numbersToTry() []int {
	list := []int{impl.MaxNumber - 1, impl.MaxNumber, 123456789}
	for n := range 17000 {
		list = append(list, n)
	}
	for n := 1; n <= impl.MaxNumber; n *= 2 {
		list = append(list, n-1, n, n+1)
	}
	for n := 1; n < impl.MaxNumber; n *= 10 {
		list = append(list, n-1, n, n+1)
	}
	return list
}

func numbersToRefuse() []int {
	return []int{-1, -2, -127, -128, -129, -impl.MaxNumber, impl.MaxNumber + 1, impl.MaxNumber + 2, 1 << 30, 1 << 32, 1<<32 + 5, 1 << 35, math.MinInt, math.MinInt + 1, math.MaxInt}
}

func TestVarText(t *testing.T) {
	cases := []struct {
		n    int
		want string
	}{
		{0, "\x00"}, {1, "\x01"}, {127, "\x7f"}, {128, "\x80\x01"}, {255, "\xff\x01"}, {300, "\xac\x02"},
		{16383, "\xff\x7f"}, {16384, "\x80\x80\x01"}, {impl.MaxNumber, "\x80\x94\xeb\xdc\x03"},
	}
	for _, c := range cases {
		if got, ok := impl.VarText(c.n); !ok || got != c.want {
			t.Errorf("VarText(%d) = %q %v, want %q", c.n, got, ok, c.want)
		}
	}
	for _, n := range numbersToTry() {
		want := string(binary.AppendUvarint(nil, uint64(n)))
		if got, ok := impl.VarText(n); !ok || got != want {
			t.Fatalf("VarText(%d) = %q %v, want %q", n, got, ok, want)
		}
	}
	for _, n := range numbersToRefuse() {
		if got, ok := impl.VarText(n); ok || got != "" {
			t.Errorf("VarText(%d) = %q %v, want a whole refusal", n, got, ok)
		}
	}
}

func checkReadVar(t *testing.T, text string, at, n, next int, ok bool) {
	t.Helper()
	gotN, gotNext, gotOk := impl.ReadVar(text, at)
	if gotN != n || gotNext != next || gotOk != ok {
		t.Errorf("ReadVar(%q, %d) = %d %d %v, want %d %d %v", text, at, gotN, gotNext, gotOk, n, next, ok)
	}
}

func TestReadVarReadsBack(t *testing.T) {
	for _, n := range numbersToTry() {
		text, _ := impl.VarText(n)
		checkReadVar(t, text, 0, n, len(text), true)
		checkReadVar(t, "\x80\xff"+text+"\x00\x80", 2, n, 2+len(text), true)
		for cut := range len(text) {
			checkReadVar(t, text[:cut], 0, 0, 0, false)
		}
	}
}

func TestReadVarPlaces(t *testing.T) {
	for _, text := range []string{"", "\x05", "\x05\x06\x07"} {
		for _, at := range []int{-1, -2, -len(text) - 1, len(text), len(text) + 1, len(text) + 9, math.MinInt, math.MaxInt} {
			checkReadVar(t, text, at, 0, 0, false)
		}
	}
	checkReadVar(t, "\x05\x06\x07", 0, 5, 1, true)
	checkReadVar(t, "\x05\x06\x07", 2, 7, 3, true)
	checkReadVar(t, "\xac\x02", 1, 2, 2, true)
}

func TestReadVarRefuses(t *testing.T) {
	wrong := []string{
		"\x80\x00", "\x81\x00", "\xff\x00", "\x80\x80\x00", "\xac\x82\x00", "\x80\x80", "\x80\x80\x80\x80\x00",
		"\x80\x94\xeb\xdc\x83\x00", "\x81\x94\xeb\xdc\x03", "\xff\xff\xff\xff\x03", "\x80\x80\x80\x80\x04", "\xff\xff\xff\xff\x7f",
		"\x80\x80\x80\x80\x80\x01", "\x80\x80\x80\x80\x80\x00", "\x80", "\xff\xff\xff\xff\xff",
		// Numbers that come back into the range, where 32 or 64 bits run over.
		"\x80\x80\x80\x80\x10", "\x85\x80\x80\x80\x10", "\x85\x80\x80\x80\x80\x80\x80\x80\x80\x02", "\x85\x80\x80\x80\x80\x80\x80\x80\x80\x80\x01",
		strings.Repeat("\x80", 40) + "\x01", strings.Repeat("\x80", 40) + "\x00", strings.Repeat("\xff", 1000) + "\x01",
	}
	for _, text := range wrong {
		checkReadVar(t, text, 0, 0, 0, false)
		checkReadVar(t, "\x07"+text, 1, 0, 0, false)
	}
}

// TestReadVarEveryShortText holds ReadVar, at all texts of up to six of some telling bytes, against a reader that writes again what it read.
func TestReadVarEveryShortText(t *testing.T) {
	bytes := []byte{0, 1, 3, 4, 127, 128, 129, 255}
	var grow func(text string)
	grow = func(text string) {
		n, size := binary.Uvarint([]byte(text))
		ok := size > 0 && n <= impl.MaxNumber && string(binary.AppendUvarint(nil, n)) == text[:size]
		if ok {
			checkReadVar(t, text, 0, int(n), size, true)
		} else {
			checkReadVar(t, text, 0, 0, 0, false)
		}
		if len(text) < 6 {
			for _, b := range bytes {
				grow(text + string([]byte{b}))
			}
		}
	}
	grow("")
}

// textsToTry: all single bytes, and texts at the edges of the length's own length and of MaxText.
func textsToTry() []string {
	list := []string{"", "abc", "\x00\xff\x80", "gr\xc3\xbc\xc3\x9f", strings.Repeat("0", 7)}
	every := []byte{}
	for b := range 256 {
		list = append(list, string([]byte{byte(b)}))
		every = append(every, byte(b))
	}
	list = append(list, string(every))
	for _, size := range []int{127, 128, 129, 16383, 16384, impl.MaxText - 1, impl.MaxText} {
		list = append(list, strings.Repeat(string(every), size/256+1)[:size])
	}
	return list
}

func longTexts() []string {
	return []string{strings.Repeat("a", impl.MaxText+1), strings.Repeat("\x00", 2*impl.MaxText), strings.Repeat("0", 1<<20)}
}

func checkReadShort(t *testing.T, text string, at int, s string, next int, ok bool) {
	t.Helper()
	gotS, gotNext, gotOk := impl.ReadShort(text, at)
	if gotS != s || gotNext != next || gotOk != ok {
		t.Errorf("ReadShort of %d bytes at %d = %d bytes %d %v, want %d bytes %d %v", len(text), at, len(gotS), gotNext, gotOk, len(s), next, ok)
	}
}

func TestShortText(t *testing.T) {
	for _, s := range textsToTry() {
		want := string(binary.AppendUvarint(nil, uint64(len(s)))) + s
		text, ok := impl.ShortText(s)
		if !ok || text != want {
			t.Fatalf("ShortText of %d bytes is wrong: %d bytes, %v", len(s), len(text), ok)
		}
		checkReadShort(t, text, 0, s, len(text), true)
		checkReadShort(t, "\x80\x01x"+text+"yz", 3, s, 3+len(text), true)
		checkReadShort(t, text[:len(text)-1], 0, "", 0, false)
	}
	for _, s := range longTexts() {
		if text, ok := impl.ShortText(s); ok || text != "" {
			t.Errorf("ShortText of %d bytes = %d bytes %v, want a whole refusal", len(s), len(text), ok)
		}
	}
}

func TestReadShortRefuses(t *testing.T) {
	for _, text := range []string{"", "\x02ab", "\x02ab\x00"} {
		for _, at := range []int{-1, -4, len(text), len(text) + 1, math.MinInt, math.MaxInt} {
			checkReadShort(t, text, at, "", 0, false)
		}
	}
	checkReadShort(t, "\x02ab\x00", 3, "", 4, true)
	checkReadShort(t, "\x02ab\x01c", 3, "c", 5, true)
	wrong := []string{
		"\x01", "\x03ab", "\x82\x00ab", "\x80\x00", "\x80", "\x81", "\x80\x94\xeb\xdc\x03abc", "\x81\x94\xeb\xdc\x03abc",
		"\xff\xff\xff\xff\xff\xff\xff\xff\x7fabc",
	}
	for _, s := range longTexts() {
		wrong = append(wrong, string(binary.AppendUvarint(nil, uint64(len(s))))+s)
	}
	for _, text := range wrong {
		checkReadShort(t, text, 0, "", 0, false)
	}
}

func checkUnhex(t *testing.T, text, want string, ok bool) {
	t.Helper()
	if got, gotOk := impl.Unhex(text); got != want || gotOk != ok {
		t.Errorf("Unhex(%.40q) of %d bytes = %.40q %v, want %.40q %v", text, len(text), got, gotOk, want, ok)
	}
}

func TestHex(t *testing.T) {
	for _, s := range textsToTry() {
		text, ok := impl.Hex(s)
		if !ok || text != hex.EncodeToString([]byte(s)) {
			t.Fatalf("Hex of %d bytes is wrong: %.40q %v", len(s), text, ok)
		}
		checkUnhex(t, text, s, true)
		if s != "" {
			checkUnhex(t, text[1:], "", false)
		}
	}
	for _, s := range longTexts() {
		if text, ok := impl.Hex(s); ok || text != "" {
			t.Errorf("Hex of %d bytes = %d bytes %v, want a whole refusal", len(s), len(text), ok)
		}
		checkUnhex(t, hex.EncodeToString([]byte(s)), "", false)
	}
}

func TestUnhexFigures(t *testing.T) {
	for a := range 256 {
		for b := range 256 {
			text := string([]byte{byte(a), byte(b)})
			high := strings.IndexByte("0123456789abcdef", byte(a))
			low := strings.IndexByte("0123456789abcdef", byte(b))
			if high >= 0 && low >= 0 {
				checkUnhex(t, text, string([]byte{byte(high*16 + low)}), true)
			} else {
				checkUnhex(t, text, "", false)
				checkUnhex(t, "00"+text+"00", "", false)
			}
		}
	}
	for _, text := range []string{"0", "abc", "FF", "fF", "0x", " 0", "0g", "00 0", "0\n", "\xc3\xbc"} {
		checkUnhex(t, text, "", false)
	}
}

func checkReadDecimal(t *testing.T, text string, want int, ok bool) {
	t.Helper()
	if got, gotOk := impl.ReadDecimal(text); got != want || gotOk != ok {
		t.Errorf("ReadDecimal(%.40q) = %d %v, want %d %v", text, got, gotOk, want, ok)
	}
}

func TestDecimal(t *testing.T) {
	cases := []struct {
		n    int
		want string
	}{
		{0, "0"}, {7, "7"}, {10, "10"}, {-5, "-5"}, {-10, "-10"}, {impl.MaxNumber, "1000000000"},
		{math.MinInt, "-9223372036854775808"}, {math.MinInt + 1, "-9223372036854775807"}, {math.MaxInt, "9223372036854775807"},
	}
	for _, c := range cases {
		if got := impl.Decimal(c.n); got != c.want {
			t.Errorf("Decimal(%d) = %q, want %q", c.n, got, c.want)
		}
	}
	for _, n := range numbersToTry() {
		text := strconv.Itoa(n)
		if got := impl.Decimal(n); got != text {
			t.Fatalf("Decimal(%d) = %q", n, got)
		}
		checkReadDecimal(t, text, n, true)
		checkReadDecimal(t, "0"+text, 0, false)
		checkReadDecimal(t, "-"+text, 0, false)
	}
	for _, n := range numbersToRefuse() {
		if got := impl.Decimal(n); got != strconv.Itoa(n) {
			t.Errorf("Decimal(%d) = %q", n, got)
		}
		checkReadDecimal(t, strconv.Itoa(n), 0, false)
	}
}

func TestReadDecimalRefuses(t *testing.T) {
	wrong := []string{
		"", "-", "+", "+1", "-0", "-1", "00", "01", "007", "0000000000", "0000000001", "01000000000", "1000000001", "2000000000", "9999999999", "10000000000",
		"1 ", " 1", "1.0", "1e3", "0x1", "1_0", "a", "1a", "f", "\n", "1\n", "1\x00", "/", ":", "\xb2", "\xd9\xa1",
		// Numbers that come back into the range, where 32 or 64 bits run over.
		"4294967301", "18446744073709551616", "18446744073709551621", strings.Repeat("1", 1<<16), strings.Repeat("0", 1<<16),
	}
	for _, text := range wrong {
		checkReadDecimal(t, text, 0, false)
	}
	for b := range 256 {
		if b < '0' || b > '9' {
			for _, text := range []string{string([]byte{byte(b)}), "1" + string([]byte{byte(b)}), string([]byte{byte(b)}) + "1"} {
				checkReadDecimal(t, text, 0, false)
			}
		}
	}
}

func checkPartsOf(t *testing.T, line string, want []string, ok bool) {
	t.Helper()
	if got, gotOk := impl.PartsOf(line); !slices.Equal(got, want) || gotOk != ok {
		t.Errorf("PartsOf(%.60q) of %d bytes = %.60q %v, want %.60q %v", line, len(line), got, gotOk, want, ok)
	}
}

func TestPartsOf(t *testing.T) {
	checkPartsOf(t, "", nil, true)
	checkPartsOf(t, " ", nil, true)
	checkPartsOf(t, "     ", nil, true)
	checkPartsOf(t, "tick", []string{"tick"}, true)
	checkPartsOf(t, " tick", []string{"tick"}, true)
	checkPartsOf(t, "tick ", []string{"tick"}, true)
	checkPartsOf(t, "  spoil   1 22  ", []string{"spoil", "1", "22"}, true)
	checkPartsOf(t, "a a a", []string{"a", "a", "a"}, true)
	checkPartsOf(t, "# ~!\"' ask", []string{"#", "~!\"'", "ask"}, true)
}

func TestPartsOfLimits(t *testing.T) {
	checkPartsOf(t, strings.Repeat("a", impl.MaxWords), []string{strings.Repeat("a", impl.MaxWords)}, true)
	checkPartsOf(t, strings.Repeat("a", impl.MaxWords+1), nil, false)
	checkPartsOf(t, strings.Repeat(" ", impl.MaxWords), nil, true)
	checkPartsOf(t, strings.Repeat(" ", impl.MaxWords+1), nil, false)
	checkPartsOf(t, strings.Repeat(" ", impl.MaxWords-1)+"a", []string{"a"}, true)
	checkPartsOf(t, strings.Repeat(" ", impl.MaxWords)+"a", nil, false)
	ten := []string{"a", "b", "c", "d", "e", "f", "g", "h", "i", "jj"}
	for n := range ten {
		checkPartsOf(t, strings.Join(ten[:n+1], " "), ten[:n+1], true)
	}
	checkPartsOf(t, "   "+strings.Join(ten, "   ")+"   ", ten, true)
	checkPartsOf(t, strings.Join(ten, " ")+" k", nil, false)
	checkPartsOf(t, "  "+strings.Join(ten, "  ")+"  k  ", nil, false)
	checkPartsOf(t, strings.Repeat("a ", 200), nil, false)
}

func TestPartsOfBytes(t *testing.T) {
	for b := range 256 {
		c := string([]byte{byte(b)})
		for _, line := range []string{c, "x" + c, c + "x", "x" + c + "y", "x " + c, c + " x"} {
			if b < 32 || b > 126 {
				checkPartsOf(t, line, nil, false)
			} else if b == 32 {
				checkPartsOf(t, line, strings.Fields(line), true)
			} else {
				checkPartsOf(t, line, strings.Split(line, " "), true)
			}
		}
	}
}

// shares tells whether two texts have a byte of memory in common.
func shares(a, b string) bool {
	if a == "" || b == "" {
		return false
	}
	startA, startB := uintptr(unsafe.Pointer(unsafe.StringData(a))), uintptr(unsafe.Pointer(unsafe.StringData(b)))
	return startA < startB+uintptr(len(b)) && startB < startA+uintptr(len(a))
}

func TestWordsAnswersAreNewMemory(t *testing.T) {
	text := strings.Repeat("\x04some", 2)
	if s, _, ok := impl.ReadShort(text, 5); !ok || shares(s, text) {
		t.Error("ReadShort hands out a piece of its argument")
	}
	line := strings.Repeat("some ", 2)
	first, _ := impl.PartsOf(line)
	for _, part := range first {
		if shares(part, line) {
			t.Error("PartsOf hands out a piece of its argument")
		}
	}
	first[0] = "other"
	checkPartsOf(t, line, []string{"some", "some"}, true)
}
