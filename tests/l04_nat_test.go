package tests

import (
	"math"
	"math/big"
	"math/rand"
	"slices"
	"strings"
	"testing"

	"loop.example/g00394/impl"
)

func TestNatConstants(t *testing.T) {
	if impl.NatBase != 10000 || impl.MaxLimbs != 40 {
		t.Errorf("NatBase %d, MaxLimbs %d", impl.NatBase, impl.MaxLimbs)
	}
}

// bigOf: the number of a list, by the library.
func bigOf(list []int) *big.Int {
	n := new(big.Int)
	for _, figure := range slices.Backward(list) {
		n.Mul(n, big.NewInt(10000))
		n.Add(n, big.NewInt(int64(figure)))
	}
	return n
}

// listOf: the list of a number, by the library.
func listOf(n *big.Int) []int {
	list := []int{}
	left, figure := new(big.Int).Set(n), new(big.Int)
	for left.Sign() > 0 {
		left.QuoRem(left, big.NewInt(10000), figure)
		list = append(list, int(figure.Int64()))
	}
	return list
}

// listOr: the list of a number, or nothing when it has more than MaxLimbs figures or is below 0.
func listOr(n *big.Int) []int {
	if list := listOf(n); n.Sign() >= 0 && len(list) <= 40 {
		return list
	}
	return nil
}

// drawn: a list of so many figures, many of them at the edges of their range.
func drawn(source *rand.Rand, size int) []int {
	list := make([]int, size)
	for i := range list {
		switch source.Intn(4) {
		case 0:
			list[i] = 9999
		case 1:
			list[i] = source.Intn(2)
		default:
			list[i] = source.Intn(10000)
		}
	}
	if size > 0 && list[size-1] == 0 {
		list[size-1] = 1
	}
	return list
}

// natsToTry: 0, small ones, those just below, at and above a power of NatBase, the greatest, and drawn ones of every length.
func natsToTry() [][]int {
	list := [][]int{nil, {}, {1}, {2}, {97}, {255}, {256}, {257}, {5000}, {9998}, {9999}, {0, 1}, {1, 1}, {5535, 6}, {5536, 6}}
	one := big.NewInt(1)
	for _, size := range []int{2, 3, 4, 5, 19, 20, 21, 39, 40} {
		least := append(make([]int, size-1), 1)
		list = append(list, least, listOf(new(big.Int).Add(bigOf(least), one)), slices.Repeat([]int{9999}, size))
		list = append(list, append(slices.Repeat([]int{9999}, size-1), 1), append(make([]int, size-1), 9999))
		if size > 3 {
			list = append(list, append(slices.Repeat([]int{9999}, size-3), 0, 0, 1), append(make([]int, size-2), 9999, 4999))
		}
	}
	source := rand.New(rand.NewSource(4))
	for size := 1; size <= 40; size++ {
		list = append(list, drawn(source, size))
	}
	return list
}

// wrongNats: too long, with a figure out of its range at the beginning, inside or at the end, and with a 0 at the end.
func wrongNats() [][]int {
	list := [][]int{
		{0}, {0, 0}, {1, 0}, {9999, 9999, 0}, append(slices.Repeat([]int{9999}, 39), 0), append(slices.Repeat([]int{9999}, 40), 0),
		slices.Repeat([]int{1}, 41), slices.Repeat([]int{9999}, 41), append(make([]int, 40), 1), make([]int, 40), make([]int, 41), slices.Repeat([]int{7}, 1000),
	}
	for _, figure := range []int{-1, -2, -9999, -10000, 10000, 10001, 20000, 1 << 32, 1<<32 + 1, -1<<32 + 1, math.MaxInt, math.MinInt} {
		list = append(list, []int{figure}, []int{figure, 1}, []int{1, figure}, []int{1, figure, 1}, append(make([]int, 39), figure))
	}
	return list
}

// guarded: a copy of a list with spare room behind it, and a check that neither was written to.
func guarded(list []int) ([]int, func() bool) {
	room := append(slices.Clone(list), 77, 77, 77)
	before := slices.Clone(room)
	return room[:len(list)], func() bool { return slices.Equal(room, before) }
}

// spoil writes to the whole memory of a list that was handed out.
func spoil(list []int) {
	list = list[:cap(list)]
	for i := range list {
		list[i] = -5
	}
}

func TestNatOk(t *testing.T) {
	for _, list := range natsToTry() {
		handed, untouched := guarded(list)
		if !impl.NatOk(handed) || !untouched() {
			t.Errorf("NatOk(%d) is false", list)
		}
	}
	for _, list := range wrongNats() {
		handed, untouched := guarded(list)
		if impl.NatOk(handed) || !untouched() {
			t.Errorf("NatOk(%d) is true", list)
		}
	}
	for place := range 40 {
		for _, figure := range []int{0, 9999, -1, 10000} {
			list := slices.Repeat([]int{1}, 40)
			list[place] = figure
			want := figure == 9999 || figure == 0 && place < 39
			if got := impl.NatOk(list); got != want {
				t.Errorf("NatOk with %d at %d = %v", figure, place, got)
			}
		}
	}
}

func TestNatOf(t *testing.T) {
	cases := []struct {
		n    int
		want []int
	}{
		{0, nil}, {1, []int{1}}, {258, []int{258}}, {9999, []int{9999}}, {10000, []int{0, 1}}, {10001, []int{1, 1}}, {19999, []int{9999, 1}},
		{99999999, []int{9999, 9999}}, {100000000, []int{0, 0, 1}}, {math.MaxInt, []int{5807, 5477, 368, 3372, 922}}, {math.MaxInt - 1, []int{5806, 5477, 368, 3372, 922}},
		{-1, nil}, {-9999, nil}, {-10000, nil}, {-10001, nil}, {-math.MaxInt, nil}, {math.MinInt, nil},
	}
	for _, c := range cases {
		if got := impl.NatOf(c.n); !slices.Equal(got, c.want) {
			t.Errorf("NatOf(%d) = %d, want %d", c.n, got, c.want)
		}
	}
	for _, n := range numbersToTry() {
		if got := impl.NatOf(n); !slices.Equal(got, listOf(big.NewInt(int64(n)))) || !impl.NatOk(got) {
			t.Fatalf("NatOf(%d) = %d", n, got)
		}
	}
}

// natAnswers: what the functions of two lists answer, each one whole.
type natAnswers struct {
	cmp                         int
	sum, less, product, q, rest []int
}

// askNats asks all functions of two lists, and holds that nothing is written to these, and that no answer shares memory with them or with another one.
func askNats(t *testing.T, a, b []int) natAnswers {
	t.Helper()
	x, first := guarded(a)
	y, second := guarded(b)
	got := natAnswers{cmp: impl.NatCmp(x, y), sum: impl.NatAdd(x, y), less: impl.NatSub(x, y), product: impl.NatMul(x, y)}
	got.q, got.rest = impl.NatDiv(x, y)
	kept := natAnswers{got.cmp, slices.Clone(got.sum), slices.Clone(got.less), slices.Clone(got.product), slices.Clone(got.q), slices.Clone(got.rest)}
	spoil(got.sum)
	spoil(got.less)
	spoil(got.product)
	spoil(got.q)
	if !slices.Equal(got.rest, kept.rest) {
		t.Fatalf("of %d and %d: two lists of one answer share memory", a, b)
	}
	spoil(got.rest)
	if !first() || !second() {
		t.Fatalf("of %d and %d: a list that was handed in is written to, or handed out", a, b)
	}
	return kept
}

func (got natAnswers) same(want natAnswers) bool {
	return got.cmp == want.cmp && slices.Equal(got.sum, want.sum) && slices.Equal(got.less, want.less) &&
		slices.Equal(got.product, want.product) && slices.Equal(got.q, want.q) && slices.Equal(got.rest, want.rest)
}

// checkNats holds all functions of two right lists against the library's great numbers.
func checkNats(t *testing.T, a, b []int) {
	t.Helper()
	x, y := bigOf(a), bigOf(b)
	want := natAnswers{cmp: x.Cmp(y)}
	want.sum = listOr(new(big.Int).Add(x, y))
	want.less = listOr(new(big.Int).Sub(x, y))
	want.product = listOr(new(big.Int).Mul(x, y))
	if y.Sign() > 0 {
		q, rest := new(big.Int).QuoRem(x, y, new(big.Int))
		want.q, want.rest = listOf(q), listOf(rest)
	}
	if got := askNats(t, a, b); !got.same(want) {
		t.Fatalf("of %d and %d: %v, want %v", a, b, got, want)
	}
}

func TestNatsOfTwo(t *testing.T) {
	list := natsToTry()
	for _, a := range list {
		for _, b := range list {
			checkNats(t, a, b)
		}
	}
	for a := range 120 {
		for b := range 120 {
			checkNats(t, impl.NatOf(a), impl.NatOf(b))
		}
	}
	source := rand.New(rand.NewSource(40))
	for range 20000 {
		checkNats(t, drawn(source, source.Intn(41)), drawn(source, source.Intn(41)))
	}
}

func TestNatsThatAreWrong(t *testing.T) {
	for _, wrong := range wrongNats() {
		for _, other := range append(natsToTry(), wrongNats()...) {
			if got := askNats(t, wrong, other); !got.same(natAnswers{}) {
				t.Fatalf("of %d and %d: %v, want nothing", wrong, other, got)
			}
			if got := askNats(t, other, wrong); !got.same(natAnswers{}) {
				t.Fatalf("of %d and %d: %v, want nothing", other, wrong, got)
			}
		}
		handed, untouched := guarded(wrong)
		if got := impl.NatText(handed); got != "" || !untouched() {
			t.Errorf("NatText(%d) = %q, want nothing", wrong, got)
		}
	}
}

func TestNatCmp(t *testing.T) {
	cases := []struct {
		a, b []int
		want int
	}{
		{nil, nil, 0}, {nil, []int{}, 0}, {nil, []int{1}, -1}, {[]int{1}, nil, 1}, {[]int{9999}, []int{0, 1}, -1}, {[]int{0, 1}, []int{9999}, 1},
		{[]int{1, 2}, []int{2, 1}, 1}, {[]int{2, 1}, []int{1, 2}, -1}, {[]int{1, 2}, []int{2, 2}, -1}, {[]int{2, 2}, []int{2, 2}, 0},
		{[]int{1}, []int{1, 0}, 0}, {[]int{1}, []int{2, 0}, 0}, {[]int{10000}, []int{1}, 0}, {[]int{-1}, nil, 0},
	}
	for _, c := range cases {
		if got := impl.NatCmp(c.a, c.b); got != c.want {
			t.Errorf("NatCmp(%d, %d) = %d, want %d", c.a, c.b, got, c.want)
		}
	}
}

// TestNatAddFits: sums of just MaxLimbs figures, and of one more.
func TestNatAddFits(t *testing.T) {
	most := slices.Repeat([]int{9999}, 40)
	almost := append([]int{9998}, most[1:]...)
	five := append(make([]int, 39), 5000)
	under := append(slices.Repeat([]int{9999}, 39), 4999)
	cases := []struct{ a, b, want []int }{
		{most, nil, most}, {almost, []int{1}, most}, {most, []int{1}, nil}, {almost, []int{2}, nil}, {most, most, nil},
		{five, five, nil}, {five, under, most}, {slices.Repeat([]int{9999}, 39), []int{1}, append(make([]int, 39), 1)},
	}
	for _, c := range cases {
		if got := impl.NatAdd(c.a, c.b); !slices.Equal(got, c.want) {
			t.Errorf("NatAdd(%d, %d) = %d, want %d", c.a, c.b, got, c.want)
		}
		if got := impl.NatAdd(c.b, c.a); !slices.Equal(got, c.want) {
			t.Errorf("NatAdd(%d, %d) = %d, want %d", c.b, c.a, got, c.want)
		}
	}
}

// TestNatMulFits: products of just MaxLimbs figures, and of one more, by factors of 41 and of 42 figures in all.
func TestNatMulFits(t *testing.T) {
	most := slices.Repeat([]int{9999}, 40)
	power := func(places int) []int { return append(make([]int, places), 1) }
	cases := []struct{ a, b, want []int }{
		{most, nil, nil}, {most, []int{1}, most}, {most, []int{2}, nil}, {power(39), []int{9999}, append(make([]int, 39), 9999)},
		{power(39), []int{0, 1}, nil}, {power(20), power(19), power(39)}, {power(20), power(20), nil},
		{append(make([]int, 39), 5000), []int{2}, nil}, {append(make([]int, 39), 4999), []int{2}, append(make([]int, 39), 9998)},
		{append(make([]int, 19), 100), append(make([]int, 20), 99), append(make([]int, 39), 9900)},
		{append(make([]int, 19), 100), append(make([]int, 20), 100), nil},
		{most[:20], most[:20], listOf(new(big.Int).Mul(bigOf(most[:20]), bigOf(most[:20])))}, {most[:20], most[:21], nil},
	}
	for _, c := range cases {
		if got := impl.NatMul(c.a, c.b); !slices.Equal(got, c.want) {
			t.Errorf("NatMul(%d, %d) = %d, want %d", c.a, c.b, got, c.want)
		}
		if got := impl.NatMul(c.b, c.a); !slices.Equal(got, c.want) {
			t.Errorf("NatMul(%d, %d) = %d, want %d", c.b, c.a, got, c.want)
		}
	}
}

func checkNatDiv(t *testing.T, a, b, q, rest []int) {
	t.Helper()
	if gotQ, gotRest := impl.NatDiv(a, b); !slices.Equal(gotQ, q) || !slices.Equal(gotRest, rest) {
		t.Fatalf("NatDiv(%d, %d) = %d and %d, want %d and %d", a, b, gotQ, gotRest, q, rest)
	}
}

func TestNatDivEdges(t *testing.T) {
	for _, a := range natsToTry() {
		checkNatDiv(t, a, nil, nil, nil)
		checkNatDiv(t, a, []int{}, nil, nil)
		checkNatDiv(t, a, []int{0}, nil, nil)
		checkNatDiv(t, a, []int{1}, a, nil)
		if len(a) == 0 {
			continue
		}
		checkNatDiv(t, nil, a, nil, nil)
		checkNatDiv(t, a, a, []int{1}, nil)
		less := listOf(new(big.Int).Sub(bigOf(a), big.NewInt(1)))
		checkNatDiv(t, less, a, nil, less)
		if more := impl.NatAdd(a, []int{1}); len(more) > 0 {
			checkNatDiv(t, a, more, nil, a)
		}
	}
}

// TestNatDivNearProducts: numbers that are a product, one less or more than one, or just short of the next one, where a figure is guessed wrong most easily.
func TestNatDivNearProducts(t *testing.T) {
	one := []int{1}
	for _, b := range natsToTry() {
		for _, q := range natsToTry() {
			product := impl.NatMul(b, q)
			if len(product) == 0 {
				continue
			}
			checkNatDiv(t, product, b, q, nil)
			short := impl.NatSub(b, one)
			checkNatDiv(t, impl.NatSub(product, one), b, impl.NatSub(q, one), short)
			if full := impl.NatAdd(product, short); len(full) > 0 {
				checkNatDiv(t, full, b, q, short)
			}
		}
	}
}

// TestNatLaws: what the functions make of each other's answers, without the library.
func TestNatLaws(t *testing.T) {
	source := rand.New(rand.NewSource(44))
	for range 3000 {
		a, b, c := drawn(source, source.Intn(14)), drawn(source, source.Intn(14)), drawn(source, source.Intn(13))
		sum, product := impl.NatAdd(a, b), impl.NatMul(a, b)
		same := []struct{ one, other []int }{
			{sum, impl.NatAdd(b, a)}, {product, impl.NatMul(b, a)},
			{impl.NatAdd(sum, c), impl.NatAdd(a, impl.NatAdd(b, c))}, {impl.NatMul(product, c), impl.NatMul(a, impl.NatMul(b, c))},
			{impl.NatMul(sum, c), impl.NatAdd(impl.NatMul(a, c), impl.NatMul(b, c))},
			{impl.NatSub(sum, b), a}, {impl.NatSub(sum, a), b}, {impl.NatSub(a, a), nil},
			{impl.NatAdd(a, nil), a}, {impl.NatMul(a, nil), nil}, {impl.NatMul(a, []int{1}), a},
		}
		for i, pair := range same {
			if !slices.Equal(pair.one, pair.other) || !impl.NatOk(pair.one) {
				t.Fatalf("law %d of %d, %d and %d: %d and %d", i, a, b, c, pair.one, pair.other)
			}
		}
		if len(b) == 0 {
			continue
		}
		q, rest := impl.NatDiv(product, b)
		if !slices.Equal(q, a) || len(rest) > 0 {
			t.Fatalf("%d is %d times in %d, and %d is left", b, q, product, rest)
		}
		q, rest = impl.NatDiv(a, b)
		if impl.NatCmp(rest, b) != -1 || !slices.Equal(impl.NatAdd(impl.NatMul(q, b), rest), a) {
			t.Fatalf("%d is %d times in %d, and %d is left", b, q, a, rest)
		}
	}
}

func TestNatText(t *testing.T) {
	cases := []struct {
		a    []int
		want string
	}{
		{nil, ""}, {[]int{}, ""}, {[]int{1}, "\x01"}, {[]int{255}, "\xff"}, {[]int{256}, "\x01\x00"}, {[]int{258}, "\x01\x02"},
		{[]int{5535, 6}, "\xff\xff"}, {[]int{5536, 6}, "\x01\x00\x00"}, {[]int{0}, ""}, {[]int{1, 0}, ""}, {[]int{10000}, ""},
	}
	for _, c := range cases {
		if got := impl.NatText(c.a); got != c.want {
			t.Errorf("NatText(%d) = %q, want %q", c.a, got, c.want)
		}
	}
	for _, a := range natsToTry() {
		handed, untouched := guarded(a)
		text := impl.NatText(handed)
		if want := string(bigOf(a).Bytes()); text != want || !untouched() {
			t.Fatalf("NatText(%d) = %q, want %q", a, text, want)
		}
		back := a
		if len(text) > 60 {
			back = nil
		}
		if got := impl.ReadNat(text); !slices.Equal(got, back) {
			t.Fatalf("ReadNat of NatText(%d) = %d", a, got)
		}
	}
}

func TestReadNat(t *testing.T) {
	cases := []struct {
		text string
		want []int
	}{
		{"", nil}, {"\x00", nil}, {strings.Repeat("\x00", 60), nil}, {strings.Repeat("\x00", 61), nil}, {"\x01", []int{1}}, {"\xff", []int{255}},
		{"\x01\x02", []int{258}}, {"\x00\x01\x02", []int{258}}, {"\x02\x01", []int{513}}, {"\x27\x0f", []int{9999}}, {"\x27\x10", []int{0, 1}}, {"0", []int{48}},
		{strings.Repeat("\x00", 59) + "\x07", []int{7}}, {strings.Repeat("\x00", 60) + "\x07", nil}, {"\x07" + strings.Repeat("\x00", 60), nil},
	}
	for _, c := range cases {
		if got := impl.ReadNat(c.text); !slices.Equal(got, c.want) {
			t.Errorf("ReadNat(%q) = %d, want %d", c.text, got, c.want)
		}
	}
	for size := range 130 {
		for _, text := range []string{textOfSize(size), strings.Repeat("\xff", size), strings.Repeat("\x80", size), "\x01" + strings.Repeat("\x00", size), "\x00" + textOfSize(size)} {
			want := []int{}
			if len(text) <= 60 {
				want = listOf(new(big.Int).SetBytes([]byte(text)))
			}
			got := impl.ReadNat(text)
			if !slices.Equal(got, want) || !impl.NatOk(got) {
				t.Fatalf("ReadNat of %d bytes %q = %d, want %d", len(text), text, got, want)
			}
			if back := impl.NatText(got); len(text) <= 60 && back != strings.TrimLeft(text, "\x00") {
				t.Fatalf("NatText of ReadNat(%q) = %q", text, back)
			}
		}
	}
	for _, text := range longTexts() {
		if got := impl.ReadNat(text); len(got) != 0 {
			t.Errorf("ReadNat of %d bytes = %d, want nothing", len(text), got)
		}
	}
}

func TestNatFigures(t *testing.T) {
	cases := []struct {
		text string
		want []int
	}{
		{"", nil}, {"0", nil}, {"00", nil}, {strings.Repeat("0", 140), nil}, {strings.Repeat("0", 141), nil}, {"1", []int{1}}, {"9", []int{9}},
		{"9999", []int{9999}}, {"10000", []int{0, 1}}, {"12345", []int{2345, 1}}, {"0001", []int{1}}, {"00010000", []int{0, 1}},
		{"123456789012345678901234567890", []int{7890, 3456, 9012, 5678, 1234, 7890, 3456, 12}},
		{strings.Repeat("9", 140), slices.Repeat([]int{9999}, 35)}, {strings.Repeat("9", 141), nil}, {"1" + strings.Repeat("0", 139), append(make([]int, 34), 1000)},
		{"1" + strings.Repeat("0", 140), nil}, {strings.Repeat("0", 139) + "5", []int{5}}, {strings.Repeat("0", 140) + "5", nil},
	}
	for _, c := range cases {
		if got := impl.NatFigures(c.text); !slices.Equal(got, c.want) {
			t.Errorf("NatFigures(%q) = %d, want %d", c.text, got, c.want)
		}
	}
	for _, a := range natsToTry() {
		text, back := bigOf(a).String(), a
		if len(text) > 140 {
			back = nil
		}
		if got := impl.NatFigures(text); !slices.Equal(got, back) || !impl.NatOk(got) {
			t.Fatalf("NatFigures(%s) = %d", text, got)
		}
		for zeros := range 6 {
			if ahead := strings.Repeat("0", zeros) + text; len(ahead) <= 140 && !slices.Equal(impl.NatFigures(ahead), a) {
				t.Fatalf("NatFigures(%s) = %d, want %d", ahead, impl.NatFigures(ahead), a)
			}
		}
	}
}

func TestNatFiguresRefuses(t *testing.T) {
	for b := range 256 {
		if b >= '0' && b <= '9' {
			continue
		}
		c := string([]byte{byte(b)})
		for _, text := range []string{c, c + "1", "1" + c, "12" + c + "34", c + strings.Repeat("1", 139), strings.Repeat("1", 139) + c} {
			if got := impl.NatFigures(text); len(got) != 0 {
				t.Errorf("NatFigures(%q) = %d, want nothing", text, got)
			}
		}
	}
	for _, text := range append(longTexts(), "-1", "+1", "1.0", "1e3", "0x1", "1_0", "1 2", "\xd9\xa1", strings.Repeat("1", 1<<16)) {
		if got := impl.NatFigures(text); len(got) != 0 {
			t.Errorf("NatFigures(%.40q) = %d, want nothing", text, got)
		}
	}
}

// TestNatAnswersAreNewMemory: what one call handed out and was written to is told again as it was.
func TestNatAnswersAreNewMemory(t *testing.T) {
	asked := []func() []int{
		func() []int { return impl.NatOf(123456789) },
		func() []int { return impl.NatAdd([]int{5}, nil) },
		func() []int { return impl.NatAdd(nil, []int{5}) },
		func() []int { return impl.NatMul([]int{5}, []int{1}) },
		func() []int { return impl.ReadNat("some bytes") },
		func() []int { return impl.NatFigures("98765432109876543210") },
	}
	for i, ask := range asked {
		first := ask()
		want := slices.Clone(first)
		spoil(first)
		if got := ask(); len(want) == 0 || !slices.Equal(got, want) {
			t.Errorf("answer %d is %d, when the one before was written to, want %d", i, got, want)
		}
	}
	// One list handed in twice.
	both, untouched := guarded([]int{3, 4, 5})
	sum, less, product := impl.NatAdd(both, both), impl.NatSub(both, both), impl.NatMul(both, both)
	q, rest := impl.NatDiv(both, both)
	got := natAnswers{impl.NatCmp(both, both), sum, less, product, q, rest}
	if want := (natAnswers{0, []int{6, 8, 10}, nil, []int{9, 24, 46, 40, 25}, []int{1}, nil}); !got.same(want) || !untouched() {
		t.Errorf("of one list twice: %v, want %v", got, want)
	}
}
