package tests

import (
	"math/big"
	"math/rand"
	"slices"
	"testing"

	"loop.example/g00394/impl"
)

// powerAnswers: what the functions of three lists answer, each one whole.
type powerAnswers struct{ product, power []int }

// askPowers asks MulMod and PowMod, and holds that nothing is written to what is handed in, and that no answer shares memory with it.
func askPowers(t *testing.T, a, b, m []int) powerAnswers {
	t.Helper()
	x, first := guarded(a)
	y, second := guarded(b)
	z, third := guarded(m)
	product, power := impl.MulMod(x, y, z), impl.PowMod(x, y, z)
	kept := powerAnswers{slices.Clone(product), slices.Clone(power)}
	spoil(product)
	if !slices.Equal(power, kept.power) {
		t.Fatalf("of %d, %d and %d: two answers share memory", a, b, m)
	}
	spoil(power)
	if !first() || !second() || !third() {
		t.Fatalf("of %d, %d and %d: a list that was handed in is written to, or handed out", a, b, m)
	}
	return kept
}

func (got powerAnswers) same(want powerAnswers) bool {
	return slices.Equal(got.product, want.product) && slices.Equal(got.power, want.power)
}

// checkPowers holds MulMod and PowMod of three right lists, m not 0, against the library's great numbers.
func checkPowers(t *testing.T, a, b, m []int) {
	t.Helper()
	x, y, z := bigOf(a), bigOf(b), bigOf(m)
	product := new(big.Int).Mul(x, y)
	want := powerAnswers{listOf(product.Mod(product, z)), listOf(new(big.Int).Exp(x, y, z))}
	got := askPowers(t, a, b, m)
	if !got.same(want) {
		t.Fatalf("of %d, %d and %d: %d, want %d", a, b, m, got, want)
	}
	if !impl.NatOk(got.product) || !impl.NatOk(got.power) || impl.NatCmp(got.product, m) != -1 || impl.NatCmp(got.power, m) != -1 {
		t.Fatalf("of %d, %d and %d: %d is not right, or not less than m", a, b, m, got)
	}
}

func checkMulMod(t *testing.T, a, b, m, want []int) {
	t.Helper()
	if got := impl.MulMod(a, b, m); !slices.Equal(got, want) {
		t.Fatalf("MulMod(%d, %d, %d) = %d, want %d", a, b, m, got, want)
	}
	if got := impl.MulMod(b, a, m); !slices.Equal(got, want) {
		t.Fatalf("MulMod(%d, %d, %d) = %d, want %d", b, a, m, got, want)
	}
}

func checkPowMod(t *testing.T, a, e, m, want []int) {
	t.Helper()
	if got := impl.PowMod(a, e, m); !slices.Equal(got, want) {
		t.Fatalf("PowMod(%d, %d, %d) = %d, want %d", a, e, m, got, want)
	}
}

// greatest: the number of MaxLimbs figures less so many.
func greatest(less int) []int {
	return append([]int{9999 - less}, slices.Repeat([]int{9999}, 39)...)
}

// moduli: 1, small ones, those at the edges of a figure and of MaxLimbs figures, and a great prime.
func moduli() [][]int {
	list := [][]int{{1}, {2}, {3}, {101}, {9999}, {0, 1}, {1, 1}, append(make([]int, 39), 1), greatest(1), greatest(0), greatPrime()}
	source := rand.New(rand.NewSource(5))
	for _, size := range []int{2, 9, 20, 21, 40} {
		list = append(list, drawn(source, size))
	}
	return list
}

// greatPrime: 2 to the power of 521, less 1, a prime of MaxLimbs figures.
func greatPrime() []int {
	n := new(big.Int).Lsh(big.NewInt(1), 521)
	return listOf(n.Sub(n, big.NewInt(1)))
}

// TestPowersOfSmallOnes: all of small numbers, by multiplying one by one; an m of 0 and of 1 among them, and an m that is more than what it is taken of.
func TestPowersOfSmallOnes(t *testing.T) {
	for m := range 24 {
		for a := range 24 {
			power := 1
			for b := range 24 {
				want := powerAnswers{}
				if m > 0 {
					want = powerAnswers{impl.NatOf(a * b % m), impl.NatOf(power % m)}
					power = power * a % m
				}
				if got := askPowers(t, impl.NatOf(a), impl.NatOf(b), impl.NatOf(m)); !got.same(want) {
					t.Fatalf("of %d, %d and %d: %d, want %d", a, b, m, got, want)
				}
			}
		}
	}
}

func TestMulModEdges(t *testing.T) {
	for _, a := range natsToTry() {
		for _, none := range [][]int{nil, {}} {
			checkMulMod(t, a, []int{1}, none, nil)
			checkMulMod(t, a, a, none, nil)
			checkMulMod(t, a, none, none, nil)
			for _, m := range moduli() {
				checkMulMod(t, a, none, m, nil)
			}
		}
		checkMulMod(t, a, []int{1}, []int{1}, nil)
		checkMulMod(t, a, a, []int{1}, nil)
		if len(a) == 0 {
			continue
		}
		checkMulMod(t, a, []int{1}, a, nil)
		checkMulMod(t, a, a, a, nil)
		if more := impl.NatAdd(a, []int{1}); len(more) > 0 {
			checkMulMod(t, a, []int{1}, more, a)
			if len(a) > 1 || a[0] > 1 {
				// One short of m, times itself.
				checkMulMod(t, a, a, more, []int{1})
			}
		}
	}
}

// TestMulModBeyondMaxLimbs: products that have more figures than MaxLimbs, of which NatMul tells nothing.
func TestMulModBeyondMaxLimbs(t *testing.T) {
	half := append(make([]int, 39), 5000)
	power := func(places int) []int { return append(make([]int, places), 1) }
	cases := []struct{ a, b, m, want []int }{
		{greatest(0), greatest(0), greatest(0), nil}, {greatest(1), greatest(1), greatest(0), []int{1}}, {greatest(2), greatest(1), greatest(0), []int{2}},
		{greatest(0), greatest(0), greatest(1), []int{1}}, {greatest(0), greatest(0), greatest(2), []int{4}}, {greatest(0), greatest(0), []int{0, 1}, []int{1}},
		{greatest(1), greatest(1), []int{9999}, []int{1}}, {greatest(0), []int{2}, greatest(1), []int{2}}, {half, []int{2}, greatest(0), []int{1}},
		{power(39), power(39), greatest(0), power(38)}, {power(39), power(39), power(39), nil}, {power(20), power(20), greatest(0), []int{1}},
		{power(39), []int{0, 1}, greatest(1), []int{2}}, {greatest(3), greatest(5), power(39), []int{24}},
	}
	for _, c := range cases {
		if got := impl.NatMul(c.a, c.b); len(got) != 0 {
			t.Fatalf("NatMul(%d, %d) = %d: the case is none", c.a, c.b, got)
		}
		checkMulMod(t, c.a, c.b, c.m, c.want)
	}
}

func TestMulModByLibrary(t *testing.T) {
	list := natsToTry()
	for _, m := range moduli() {
		z := bigOf(m)
		for i, a := range list {
			for _, b := range list[i:] {
				want := new(big.Int).Mul(bigOf(a), bigOf(b))
				checkMulMod(t, a, b, m, listOf(want.Mod(want, z)))
			}
		}
	}
}

// TestPowModOfNought: 0 to the power of 0 is 1, and 0 to any other power is 0; what is left of 1 by 1 is 0.
func TestPowModOfNought(t *testing.T) {
	one := []int{1}
	for _, m := range natsToTry() {
		left := one
		if len(m) == 0 || slices.Equal(m, one) {
			left = nil
		}
		for _, none := range [][]int{nil, {}} {
			checkPowMod(t, none, none, m, left)
			checkPowMod(t, none, one, m, nil)
			for _, other := range natsToTry() {
				checkPowMod(t, other, none, m, left)
				if len(other) > 0 && len(m) < 5 {
					checkPowMod(t, none, other, m, nil)
				}
			}
		}
	}
	for _, e := range natsToTry() {
		for _, m := range moduli() {
			if len(e) > 0 {
				checkPowMod(t, nil, e, m, nil)
			}
		}
	}
}

func TestPowModEdges(t *testing.T) {
	one, two := []int{1}, []int{2}
	for _, a := range natsToTry() {
		for _, e := range [][]int{nil, one, two, {3}, {9999}, {0, 1}} {
			checkPowMod(t, a, e, nil, nil)
			checkPowMod(t, a, e, []int{}, nil)
			checkPowMod(t, a, e, one, nil)
			if len(e) > 0 && len(a) > 0 {
				checkPowMod(t, a, e, a, nil)
			}
		}
		for _, m := range moduli() {
			_, left := impl.NatDiv(a, m)
			checkPowMod(t, a, one, m, left)
			checkPowMod(t, a, two, m, impl.MulMod(a, a, m))
			checkPowMod(t, one, a, m, impl.MulMod(one, one, m))
		}
		if more := impl.NatAdd(a, one); len(more) > 0 && len(a) > 0 {
			// m is more than a: all of a is left; and a, one short of m, is 1 by even powers.
			checkPowMod(t, a, one, more, a)
			checkPowMod(t, a, []int{0, 1}, more, impl.MulMod(one, one, more))
			checkPowMod(t, a, []int{1, 1}, more, a)
		}
	}
	// Powers of MaxLimbs figures in each place.
	checkPowMod(t, greatest(0), greatest(0), greatest(0), nil)
	checkPowMod(t, greatest(1), greatest(0), greatest(0), greatest(1))
	checkPowMod(t, greatest(1), greatest(1), greatest(0), one)
	checkPowMod(t, greatest(0), greatest(0), greatest(1), one)
	checkPowMod(t, []int{0, 1}, impl.NatOf(39), greatest(0), append(make([]int, 39), 1))
	checkPowMod(t, []int{0, 1}, impl.NatOf(40), greatest(0), one)
	checkPowMod(t, []int{0, 1}, impl.NatOf(39), append(make([]int, 39), 1), nil)
}

func TestPowModByLibrary(t *testing.T) {
	short := [][]int{nil, {1}, {2}, {97}, {9999}, {0, 1}, {5537, 6}, {9999, 9999}, {0, 0, 1}}
	for _, m := range moduli() {
		for _, a := range natsToTry() {
			for _, e := range short {
				checkPowers(t, a, e, m)
			}
		}
	}
	source := rand.New(rand.NewSource(55))
	for range 600 {
		checkPowers(t, drawn(source, source.Intn(41)), drawn(source, source.Intn(41)), drawn(source, 1+source.Intn(40)))
	}
	for range 3000 {
		checkPowers(t, drawn(source, source.Intn(5)), drawn(source, source.Intn(5)), drawn(source, 1+source.Intn(4)))
	}
	for range 20 {
		checkPowers(t, drawn(source, 40), drawn(source, 40), drawn(source, 40))
	}
}

// TestPowersGoOverSums: promise 5, and what else the functions make of each other's answers, without the library.
func TestPowersGoOverSums(t *testing.T) {
	source := rand.New(rand.NewSource(555))
	for round := range 700 {
		longest := 6
		if round%20 == 0 {
			longest = 40
		}
		a, b, m := drawn(source, source.Intn(longest+1)), drawn(source, source.Intn(longest+1)), drawn(source, 1+source.Intn(longest))
		e, f := drawn(source, source.Intn(longest/2+1)), drawn(source, source.Intn(longest/2+1))
		ae, af, be := impl.PowMod(a, e, m), impl.PowMod(a, f, m), impl.PowMod(b, e, m)
		_, left := impl.NatDiv(a, m)
		same := []struct{ one, other []int }{
			{impl.PowMod(a, impl.NatAdd(e, f), m), impl.MulMod(ae, af, m)},
			{impl.PowMod(a, impl.NatAdd(e, []int{1}), m), impl.MulMod(ae, a, m)},
			{impl.PowMod(a, impl.NatMul(e, f), m), impl.PowMod(ae, f, m)},
			{impl.PowMod(impl.MulMod(a, b, m), e, m), impl.MulMod(ae, be, m)},
			{impl.PowMod(left, e, m), ae},
			{impl.MulMod(a, b, m), impl.MulMod(b, a, m)},
			{impl.MulMod(impl.MulMod(a, b, m), ae, m), impl.MulMod(a, impl.MulMod(b, ae, m), m)},
			{impl.MulMod(a, []int{1}, m), left},
		}
		for i, pair := range same {
			if !slices.Equal(pair.one, pair.other) || !impl.NatOk(pair.one) || impl.NatCmp(pair.one, m) != -1 {
				t.Fatalf("law %d of %d, %d, powers %d, %d by %d: %d and %d", i, a, b, e, f, m, pair.one, pair.other)
			}
		}
	}
}

// TestPowersByPrimes: a number that a prime is not in is 1, to the power of the prime less 1.
func TestPowersByPrimes(t *testing.T) {
	for _, prime := range [][]int{{2}, {3}, {101}, {9973}, {5537, 6}, {7, 0, 10}, greatPrime()} {
		if !bigOf(prime).ProbablyPrime(20) {
			t.Fatalf("%d is no prime: the case is none", prime)
		}
		less := impl.NatSub(prime, []int{1})
		for _, a := range [][]int{{1}, {2}, {3}, {9999}, {0, 1}, less, greatest(0)} {
			want := []int{1}
			if _, left := impl.NatDiv(a, prime); len(left) == 0 {
				want = nil
			}
			checkPowMod(t, a, less, prime, want)
			checkPowMod(t, a, prime, prime, impl.MulMod(a, []int{1}, prime))
		}
	}
}

// TestPowersThatAreWrong: each of the lists in turn that is not right, whatever the others are.
func TestPowersThatAreWrong(t *testing.T) {
	others := [][]int{nil, {1}, {2}, {7, 7}, greatest(0), {0}, {10000}, slices.Repeat([]int{1}, 41)}
	for _, wrong := range wrongNats() {
		for _, x := range others {
			for _, y := range others {
				for _, three := range [][3][]int{{wrong, x, y}, {x, wrong, y}, {x, y, wrong}} {
					if got := askPowers(t, three[0], three[1], three[2]); !got.same(powerAnswers{}) {
						t.Fatalf("of %d: %d, want nothing", three, got)
					}
				}
			}
		}
		if got := askPowers(t, wrong, wrong, wrong); !got.same(powerAnswers{}) {
			t.Fatalf("of %d, three times: %d, want nothing", wrong, got)
		}
		handed, untouched := guarded(wrong)
		if got := impl.BitsOf(handed); len(got) != 0 || !untouched() {
			t.Fatalf("BitsOf(%d) = %d, want nothing", wrong, got)
		}
	}
}

// bitsByLibrary: the bits of a number, the lowest first.
func bitsByLibrary(n *big.Int) []int {
	list := []int{}
	for i := range n.BitLen() {
		list = append(list, int(n.Bit(i)))
	}
	return list
}

// checkBits holds BitsOf whole, and that the bits make the number again.
func checkBits(t *testing.T, e, want []int) {
	t.Helper()
	handed, untouched := guarded(e)
	got := impl.BitsOf(handed)
	if !slices.Equal(got, want) {
		t.Fatalf("BitsOf(%d) = %d, want %d", e, got, want)
	}
	if len(got) > 0 && got[len(got)-1] != 1 {
		t.Fatalf("BitsOf(%d) = %d: the last one is not 1", e, got)
	}
	again := []int{}
	for _, bit := range slices.Backward(got) {
		again = impl.NatAdd(impl.NatAdd(again, again), impl.NatOf(bit))
	}
	if !slices.Equal(again, e) {
		t.Fatalf("BitsOf(%d) = %d, which make %d", e, got, again)
	}
	spoil(got)
	if !untouched() {
		t.Fatalf("BitsOf(%d): the list that was handed in is written to, or handed out", e)
	}
}

func TestBitsOf(t *testing.T) {
	cases := []struct{ e, want []int }{
		{nil, nil}, {[]int{}, nil}, {[]int{1}, []int{1}}, {[]int{2}, []int{0, 1}}, {[]int{3}, []int{1, 1}}, {[]int{6}, []int{0, 1, 1}},
		{[]int{8}, []int{0, 0, 0, 1}}, {[]int{9999}, []int{1, 1, 1, 1, 0, 0, 0, 0, 1, 1, 1, 0, 0, 1}}, {[]int{0, 1}, []int{0, 0, 0, 0, 1, 0, 0, 0, 1, 1, 1, 0, 0, 1}},
		{[]int{5537, 6}, []int{1, 0, 0, 0, 0, 0, 0, 0, 0, 0, 0, 0, 0, 0, 0, 0, 1}},
		{greatPrime(), slices.Repeat([]int{1}, 521)},
	}
	for _, c := range cases {
		checkBits(t, c.e, c.want)
	}
	for n := range 3000 {
		checkBits(t, impl.NatOf(n), bitsByLibrary(big.NewInt(int64(n))))
	}
	for _, e := range natsToTry() {
		checkBits(t, e, bitsByLibrary(bigOf(e)))
	}
	if got := len(impl.BitsOf(greatest(0))); got != 532 {
		t.Errorf("the greatest number has %d bits, want 532", got)
	}
}

// TestBitsOfPowersOfTwo: each power of 2 that MaxLimbs figures hold, and one less.
func TestBitsOfPowersOfTwo(t *testing.T) {
	for places := range 532 {
		n := new(big.Int).Lsh(big.NewInt(1), uint(places))
		checkBits(t, listOf(n), append(make([]int, places), 1))
		checkBits(t, listOf(n.Sub(n, big.NewInt(1))), slices.Repeat([]int{1}, places))
	}
}

// TestPowerAnswersAreNewMemory: what one call handed out and was written to is told again as it was.
func TestPowerAnswersAreNewMemory(t *testing.T) {
	asked := []func() []int{
		func() []int { return impl.MulMod([]int{5}, []int{1}, []int{7}) },
		func() []int { return impl.MulMod([]int{5, 5}, []int{3}, greatest(0)) },
		func() []int { return impl.PowMod([]int{5}, nil, []int{7}) },
		func() []int { return impl.PowMod(nil, nil, []int{7}) },
		func() []int { return impl.PowMod([]int{5}, []int{1}, []int{7}) },
		func() []int { return impl.PowMod([]int{5}, []int{20}, greatest(0)) },
		func() []int { return impl.BitsOf([]int{1}) },
		func() []int { return impl.BitsOf([]int{5, 5}) },
	}
	for i, ask := range asked {
		first := ask()
		want := slices.Clone(first)
		spoil(first)
		if got := ask(); len(want) == 0 || !slices.Equal(got, want) {
			t.Errorf("answer %d is %d, when the one before was written to, want %d", i, got, want)
		}
	}
}

// TestPowersOfOneListTwice: one list handed in for two, or for all.
func TestPowersOfOneListTwice(t *testing.T) {
	both, untouched := guarded([]int{3, 4})
	m := []int{1, 0, 0, 1}
	x := bigOf(both)
	power := listOf(new(big.Int).Exp(x, x, bigOf(m)))
	if got := impl.MulMod(both, both, m); !slices.Equal(got, []int{9, 24, 16}) || !untouched() {
		t.Errorf("MulMod of one list twice = %d", got)
	}
	if got := impl.PowMod(both, both, m); !slices.Equal(got, power) || !untouched() {
		t.Errorf("PowMod of one list twice = %d, want %d", got, power)
	}
	if got := impl.PowMod([]int{3}, both, both); !slices.Equal(got, listOf(new(big.Int).Exp(big.NewInt(3), x, x))) || !untouched() {
		t.Errorf("PowMod by its own power = %d", got)
	}
	if got := impl.MulMod(both, both, both); len(got) != 0 || !untouched() {
		t.Errorf("MulMod of one list three times = %d, want nothing", got)
	}
	if got := impl.PowMod(both, both, both); len(got) != 0 || !untouched() {
		t.Errorf("PowMod of one list three times = %d, want nothing", got)
	}
}
