package tests

import (
	"fmt"
	"math"
	"math/big"
	"math/rand"
	"slices"
	"strings"
	"testing"

	"loop.example/g00394/impl"
)

func TestStatusConstants(t *testing.T) {
	if impl.StGood != 1 || impl.StGone != 2 || impl.StNone != 3 {
		t.Errorf("StGood %d, StGone %d, StNone %d", impl.StGood, impl.StGone, impl.StNone)
	}
}

// wholeList: of root, good from 10 to 90, signed by house 0.
func wholeList(num int, revs ...impl.Rev) impl.Crl {
	return impl.SignedCrl(impl.Crl{Issuer: "root", Num: num, This: 10, Next: 90, Revs: revs}, 0)
}

// changesSince: likewise, what changed since the list of Num base.
func changesSince(base, num int, revs ...impl.Rev) impl.Crl {
	return impl.SignedCrl(impl.Crl{Issuer: "root", Num: num, This: 10, Next: 90, Base: base, Revs: revs}, 0)
}

// resigned: x with one thing done to it, and signed by house i.
func resigned(x impl.Crl, i int, change func(x *impl.Crl)) impl.Crl {
	return impl.SignedCrl(changedList(x, change), i)
}

func letterOfRoot(serial int) impl.Cert {
	return changed(someLetter(), func(c *impl.Cert) { c.Serial, c.Issuer = serial, "root" })
}

func believedByHand(t *testing.T, x impl.Crl, issuer, key string, time int) bool {
	t.Helper()
	if !listRight(x) || x.Issuer != issuer || x.This > time || time > x.Next {
		return false
	}
	return sigOkByLibrary(key, listBodyTextByHand(t, x), x.Sig)
}

func crlsByHand(t *testing.T, list []impl.Crl, issuer, key string, time int) []impl.Crl {
	t.Helper()
	return slices.DeleteFunc(slices.Clone(list), func(x impl.Crl) bool { return !believedByHand(t, x, issuer, key, time) })
}

// newestByHand: of those with the greatest Num that there is, the first one.
func newestByHand(list []impl.Crl) (impl.Crl, bool) {
	if len(list) == 0 {
		return impl.Crl{}, false
	}
	nums := []int{}
	for _, x := range list {
		nums = append(nums, x.Num)
	}
	return list[slices.Index(nums, slices.Max(nums))], true
}

func wholeByHand(list []impl.Crl) (impl.Crl, bool) {
	return newestByHand(slices.DeleteFunc(slices.Clone(list), func(x impl.Crl) bool { return x.Base != 0 }))
}

func deltaByHand(list []impl.Crl, whole impl.Crl) (impl.Crl, bool) {
	return newestByHand(slices.DeleteFunc(slices.Clone(list), func(x impl.Crl) bool {
		return x.Base == 0 || x.Base > whole.Num || x.Num <= whole.Num
	}))
}

// statusByHand: as the chapter tells it, list by list.
func statusByHand(t *testing.T, list []impl.Crl, c impl.Cert, key string, time int) (int, int) {
	t.Helper()
	told := crlsByHand(t, list, c.Issuer, key, time)
	whole, ok := wholeByHand(told)
	if !ok {
		return 3, 0
	}
	if delta, changes := deltaByHand(told, whole); changes && listedByHand(delta, c.Serial) != 0 {
		if reason := listedByHand(delta, c.Serial); reason != 8 {
			return 2, reason
		}
		return 1, 0
	}
	if reason := listedByHand(whole, c.Serial); reason != 0 {
		return 2, reason
	}
	return 1, 0
}

// guardedLists: lists with room behind them, and behind the Revs of each, and whether all of that is still as it was.
func guardedLists(list []impl.Crl) ([]impl.Crl, func() bool) {
	room, kept := []impl.Crl{}, []func() bool{}
	for _, x := range append(slices.Clone(list), someList(), deltaList()) {
		handed, asItWas := guardedList(x)
		room, kept = append(room, handed), append(kept, asItWas)
	}
	before := slices.Clone(room)
	return room[:len(list)], func() bool {
		return slices.EqualFunc(room, before, sameList) && !slices.ContainsFunc(kept, func(asItWas func() bool) bool { return !asItWas() })
	}
}

// checkOwnLists: no list of the answer lies in the memory of what was handed in, or of another list of the answer.
func checkOwnLists(t *testing.T, name string, answer []impl.Crl, handed ...impl.Crl) {
	t.Helper()
	if cap(answer) > 0 && cap(handed) > 0 && memoryOf(answer).meets(memoryOf(handed)) {
		t.Fatalf("%s: the answer lies in the memory of its argument", name)
	}
	for i, x := range answer {
		checkOwnList(t, name, x, handed...)
		checkOwnList(t, name, x, answer[:i]...)
	}
}

// checkCrlsOf: the answer is held whole, and against memory that is not its own.
func checkCrlsOf(t *testing.T, list []impl.Crl, issuer, key string, time int) []impl.Crl {
	t.Helper()
	handed, untouched := guardedLists(list)
	got, want := impl.CrlsOf(handed, issuer, key, time), crlsByHand(t, list, issuer, key, time)
	if !slices.EqualFunc(got, want, sameList) || !untouched() {
		t.Fatalf("CrlsOf(%#v, %q, %x, %d) = %#v, want %#v; untouched: %v", list, issuer, key, time, got, want, untouched())
	}
	checkOwnLists(t, "CrlsOf", got, append(slices.Clone(handed), impl.Crl{Issuer: issuer, Sig: key})...)
	checkOwnLists(t, "CrlsOf", got, handed...)
	return got
}

// checkPlaces: of the list those at these places are kept, in this order.
func checkPlaces(t *testing.T, list []impl.Crl, issuer, key string, time int, places ...int) {
	t.Helper()
	want := []impl.Crl{}
	for _, place := range places {
		want = append(want, list[place])
	}
	if got := checkCrlsOf(t, list, issuer, key, time); !slices.EqualFunc(got, want, sameList) {
		t.Fatalf("CrlsOf(.., %q, %x, %d) = %#v, want those at %v", issuer, key, time, got, places)
	}
}

// checkNewest: what WholeOf or DeltaOf answered of a list, held whole.
func checkNewest(t *testing.T, name string, got impl.Crl, ok bool, want impl.Crl, wantOk bool, handed []impl.Crl) {
	t.Helper()
	if ok != wantOk || !sameList(got, want) {
		t.Fatalf("%s(%#v) = %#v %v, want %#v %v", name, handed, got, ok, want, wantOk)
	}
	checkOwnList(t, name, got, handed...)
}

func checkWholeOf(t *testing.T, list []impl.Crl) (impl.Crl, bool) {
	t.Helper()
	handed, untouched := guardedLists(list)
	got, ok := impl.WholeOf(handed)
	want, wantOk := wholeByHand(list)
	checkNewest(t, "WholeOf", got, ok, want, wantOk, handed)
	if !untouched() {
		t.Fatalf("WholeOf(%#v) writes into it", list)
	}
	return got, ok
}

func checkDeltaOf(t *testing.T, list []impl.Crl, whole impl.Crl) (impl.Crl, bool) {
	t.Helper()
	handed, untouched := guardedLists(list)
	base, baseUntouched := guardedList(whole)
	got, ok := impl.DeltaOf(handed, base)
	want, wantOk := deltaByHand(list, whole)
	checkNewest(t, fmt.Sprintf("DeltaOf with Num %d", whole.Num), got, ok, want, wantOk, append(slices.Clone(handed), base))
	if !untouched() || !baseUntouched() || !sameList(base, whole) {
		t.Fatalf("DeltaOf(%#v, %#v) writes into them", list, whole)
	}
	return got, ok
}

// checkStatus: held against the chapter's words by hand, and against what the case tells.
func checkStatus(t *testing.T, list []impl.Crl, c impl.Cert, key string, time int, status, reason int) {
	t.Helper()
	if byHand, why := statusByHand(t, list, c, key, time); byHand != status || why != reason {
		t.Fatalf("%#v, Serial %d of %q, time %d: the case is none, by hand it is %d %d, not %d %d", list, c.Serial, c.Issuer, time, byHand, why, status, reason)
	}
	handed, untouched := guardedLists(list)
	letter, letterUntouched := guardedLetter(c)
	got, why := impl.StatusOf(handed, letter, key, time)
	if got != status || why != reason {
		t.Fatalf("StatusOf(%#v, Serial %d of %q, %x, %d) = %d %d, want %d %d", list, c.Serial, c.Issuer, key, time, got, why, status, reason)
	}
	if !untouched() || !letterUntouched() || !sameLetter(letter, c) {
		t.Fatalf("StatusOf(%#v, %#v, ..) writes into them", list, c)
	}
}

// checkSerial: what is told of a letter of root by the key of house 0, at the time 20.
func checkSerial(t *testing.T, list []impl.Crl, serial, status, reason int) {
	t.Helper()
	checkStatus(t, list, letterOfRoot(serial), impl.PublicAt(0), 20, status, reason)
}

// TestCrlsOfSeveralIssuers: lists of several issuers, signed by several houses: those of one and by one are kept, in their order.
func TestCrlsOfSeveralIssuers(t *testing.T) {
	issuers := []string{"root", "ca.org", "org", "ca.orgs", "a"}
	list, places := []impl.Crl{}, map[string][]int{}
	for round := range 3 {
		for i, issuer := range issuers {
			for house := range 4 {
				x := impl.Crl{Issuer: issuer, Num: 9 - 2*round, This: 10, Next: 90, Base: round * (house % 2), Revs: revsFrom(round, i, 1+house)}
				places[issuer+impl.PublicAt(house)] = append(places[issuer+impl.PublicAt(house)], len(list))
				list = append(list, impl.SignedCrl(x, house))
			}
		}
	}
	for _, issuer := range append(issuers, "", "roo", "roots", "Root", "ro.ot", "root.", "rg", "ca", "b") {
		for house := range impl.Secrets {
			kept := places[issuer+impl.PublicAt(house)]
			if wanted := slices.Contains(issuers, issuer) && house < 4; wanted != (len(kept) == 3) {
				t.Fatalf("%q, house %d: the case is none", issuer, house)
			}
			checkPlaces(t, list, issuer, impl.PublicAt(house), 50, kept...)
			checkPlaces(t, list, issuer, impl.PublicAt(house), 9)
			checkPlaces(t, list, issuer, impl.PublicAt(house), 91)
		}
	}
}

// TestCrlsOfKeepsTheOrder: whole lists and changes stand as they stood, one that is there twice stands there twice, and there may be many.
func TestCrlsOfKeepsTheOrder(t *testing.T) {
	a, b, c := wholeList(5, revsFrom(1, 2, 1)...), changesSince(2, 7, revsFrom(1, 2, 8)...), wholeList(3)
	other := resigned(a, 1, func(*impl.Crl) {})
	key := impl.PublicAt(0)
	checkPlaces(t, []impl.Crl{a, b, c}, "root", key, 20, 0, 1, 2)
	checkPlaces(t, []impl.Crl{c, a, b}, "root", key, 20, 0, 1, 2)
	checkPlaces(t, []impl.Crl{b, other, c, other, a}, "root", key, 20, 0, 2, 4)
	checkPlaces(t, []impl.Crl{other, a, a, b, a}, "root", key, 20, 1, 2, 3, 4)
	checkPlaces(t, []impl.Crl{other, a, b}, "root", impl.PublicAt(1), 20, 0)
	checkPlaces(t, []impl.Crl{other}, "root", key, 20)
	many, places := []impl.Crl{}, []int{}
	for i := range 300 {
		many = append(many, []impl.Crl{a, other, b, {}, c}[i%5])
		if i%5 != 1 && i%5 != 3 {
			places = append(places, i)
		}
	}
	checkPlaces(t, many, "root", key, 20, places...)
}

// TestCrlsOfTimes: This at time, and one above and below it; Next likewise.
func TestCrlsOfTimes(t *testing.T) {
	numbers := []int{0, 1, 2, 49, 50, 51, 9997, 9998, 9999}
	for _, this := range numbers {
		for _, next := range numbers {
			x := resigned(emptyList(), 3, func(x *impl.Crl) { x.This, x.Next = this, next })
			times := append(edgeNumbers(), this-1, this, this+1, next-1, next, next+1, (this+next)/2)
			for _, time := range times {
				places := map[bool][]int{true: {0}}[time >= this && time <= next]
				checkPlaces(t, []impl.Crl{x}, "a", impl.PublicAt(3), time, places...)
			}
		}
	}
	// Ten spans that overlap: at each time just those in which it lies.
	list := []impl.Crl{}
	for i := range 10 {
		list = append(list, resigned(wholeList(1+i), 0, func(x *impl.Crl) { x.This, x.Next = 5*i, 5*i+12 }))
	}
	for time := -3; time < 65; time++ {
		places := []int{}
		for i := range list {
			if 5*i <= time && time <= 5*i+12 {
				places = append(places, i)
			}
		}
		checkPlaces(t, list, "root", impl.PublicAt(0), time, places...)
	}
}

// TestCrlsOfWrongLists: lists that are signed as they stand, and are not right, beside right ones.
func TestCrlsOfWrongLists(t *testing.T) {
	a, b := wholeList(5, revsFrom(1, 3, 1)...), changesSince(5, 9, revsFrom(1, 3, 8)...)
	for _, change := range []func(x *impl.Crl){
		func(x *impl.Crl) { x.Num, x.Base = 0, 0 }, func(x *impl.Crl) { x.Num = -1 }, func(x *impl.Crl) { x.Num = 10000 }, func(x *impl.Crl) { x.Num = math.MaxInt }, func(x *impl.Crl) { x.Base = x.Num }, func(x *impl.Crl) { x.Base = x.Num + 1 }, func(x *impl.Crl) { x.Base = -1 },
		func(x *impl.Crl) { x.This = -1 }, func(x *impl.Crl) { x.This = math.MinInt }, func(x *impl.Crl) { x.Next = 10000 }, func(x *impl.Crl) { x.Next = math.MaxInt },
		func(x *impl.Crl) { x.Revs = revsFrom(1, 9, 1) }, func(x *impl.Crl) { x.Revs = revsFrom(1, 41, 1) }, func(x *impl.Crl) { slices.Reverse(x.Revs) }, func(x *impl.Crl) { x.Revs[1] = x.Revs[0] }, func(x *impl.Crl) { x.Revs[0].Serial = -1 }, func(x *impl.Crl) { x.Revs[2].Serial = 10000 },
		func(x *impl.Crl) { x.Revs[1].Reason = 0 }, func(x *impl.Crl) { x.Revs[1].Reason = 11 }, func(x *impl.Crl) { x.Base, x.Revs[1].Reason = 0, 8 },
	} {
		for _, x := range []impl.Crl{a, b} {
			wrong := resigned(x, 0, change)
			if listRight(wrong) || !impl.SigOk(impl.PublicAt(0), impl.CrlBody(wrong), wrong.Sig) {
				t.Fatalf("%#v: the case is none", wrong)
			}
			checkPlaces(t, []impl.Crl{wrong}, "root", impl.PublicAt(0), 20)
			checkPlaces(t, []impl.Crl{wrong, a, wrong, b, wrong}, "root", impl.PublicAt(0), 20, 1, 3)
			checkStatus(t, []impl.Crl{wrong}, letterOfRoot(1), impl.PublicAt(0), 20, impl.StNone, 0)
			checkStatus(t, []impl.Crl{wrong, a}, letterOfRoot(1), impl.PublicAt(0), 20, impl.StGone, 1)
		}
	}
	checkPlaces(t, []impl.Crl{{}, {}}, "", "", 0)
	// An issuer that is no name has no lists, not even its own.
	for _, name := range append(wrongNames(), strings.Repeat("a", 21)) {
		x := resigned(a, 0, func(x *impl.Crl) { x.Issuer = name })
		checkPlaces(t, []impl.Crl{x, a}, name, impl.PublicAt(0), 20)
		checkPlaces(t, []impl.Crl{x, a}, "root", impl.PublicAt(0), 20, 1)
		checkStatus(t, []impl.Crl{x, a}, changed(letterOfRoot(1), func(c *impl.Cert) { c.Issuer = name }), impl.PublicAt(0), 20, impl.StNone, 0)
	}
}

// TestCrlsOfSpoiltSigs: one byte of Sig turned, Sigs of another size, of nobody, and of other lists.
func TestCrlsOfSpoiltSigs(t *testing.T) {
	key := impl.PublicAt(0)
	for _, x := range []impl.Crl{wholeList(5, revsFrom(1, 3, 1)...), changesSince(5, 9, revsFrom(1, 3, 8)...), wholeList(1)} {
		spoilt := []string{"", "\x00", x.Sig[:14], x.Sig[1:], x.Sig + "\x00", "\x00" + x.Sig, x.Sig + x.Sig, strings.Repeat("\x00", 15), strings.Repeat("\xff", 15), key, impl.Padded(impl.CrlBody(x))}
		for at := range impl.KeySize {
			for _, bits := range []byte{1, 2, 16, 128, 255} {
				spoilt = append(spoilt, turned(x.Sig, at, bits))
			}
		}
		for _, i := range append(noHouses(), 1, 2, 3, 4, 5) {
			spoilt = append(spoilt, impl.SignWith(i, impl.CrlBody(x)))
		}
		text, _ := impl.CrlText(x)
		spoilt = append(spoilt, impl.SignWith(0, ""), impl.SignWith(0, text), impl.SignWith(0, impl.BodyText(someLetter())), wholeList(6).Sig)
		for _, sig := range spoilt {
			wrong := changedList(x, func(x *impl.Crl) { x.Sig = sig })
			checkPlaces(t, []impl.Crl{wrong}, "root", key, 20)
			checkPlaces(t, []impl.Crl{wrong, x, wrong}, "root", key, 20, 1)
			checkStatus(t, []impl.Crl{wrong}, letterOfRoot(1), key, 20, impl.StNone, 0)
		}
	}
}

// TestCrlsOfTooGreatSigs: what is more than a Sig by the whole key is none, though its power is the same.
func TestCrlsOfTooGreatSigs(t *testing.T) {
	const house = 3
	key := impl.PublicAt(house)
	found := 0
	for num := 1; num <= 40; num++ {
		x := impl.SignedCrl(impl.Crl{Issuer: "root", Num: num, This: 10, Next: 90}, house)
		great := new(big.Int).Add(bigBytes(x.Sig), bigBytes(key))
		if great.BitLen() > 8*impl.KeySize {
			continue
		}
		found++
		checkPlaces(t, []impl.Crl{changedList(x, func(x *impl.Crl) { x.Sig = keyText(great) }), x}, "root", key, 20, 1)
	}
	if found == 0 {
		t.Error("no Sig has room for the key: the case is none")
	}
}

// TestCrlsOfChangedLists: what is told otherwise than it was signed.
func TestCrlsOfChangedLists(t *testing.T) {
	x := changesSince(5, 9, revsFrom(1, 3, 8)...)
	for _, change := range []func(x *impl.Crl){
		func(x *impl.Crl) { x.Issuer = "roof" }, func(x *impl.Crl) { x.Num++ }, func(x *impl.Crl) { x.Num-- }, func(x *impl.Crl) { x.This++ }, func(x *impl.Crl) { x.This = 0 }, func(x *impl.Crl) { x.Next++ }, func(x *impl.Crl) { x.Next = 9999 }, func(x *impl.Crl) { x.Base++ }, func(x *impl.Crl) { x.Base-- },
		func(x *impl.Crl) { x.Revs = nil }, func(x *impl.Crl) { x.Revs = x.Revs[:2] }, func(x *impl.Crl) { x.Revs = x.Revs[1:] }, func(x *impl.Crl) { x.Revs[0].Reason = 1 }, func(x *impl.Crl) { x.Revs[2].Serial++ }, func(x *impl.Crl) { x.Revs = append(x.Revs, impl.Rev{Serial: 9, Reason: 8}) },
	} {
		other := changedList(x, change)
		if !listRight(other) {
			t.Fatalf("%#v: the case is none, it is not right", other)
		}
		checkPlaces(t, []impl.Crl{other, x}, "root", impl.PublicAt(0), 20, 1)
		checkPlaces(t, []impl.Crl{other, x}, "roof", impl.PublicAt(0), 20)
	}
}

// noKeys: texts that are no key, or none by which house 0 signs.
func noKeys() []string {
	key := impl.PublicAt(0)
	none := strings.Repeat("\x00", impl.KeySize)
	list := []string{"", "\x00", "root", key[:14], key[1:], key + "\x00", "\x00" + key, key + key, none, more(none, 1), more(none, 2), more(key, 1), more(key, -1), strings.Repeat("\xff", impl.KeySize), textOfSize(15), textOfSize(5000)}
	for i := -1; i <= impl.Secrets; i++ {
		if i != 0 {
			list = append(list, impl.PublicAt(i))
		}
	}
	for at := range impl.KeySize {
		list = append(list, turned(key, at, 1), turned(key, at, 128))
	}
	return list
}

func TestStatusByKeysThatAreNone(t *testing.T) {
	list := []impl.Crl{wholeList(5, revsFrom(1, 3, 1)...), changesSince(5, 9, revsFrom(1, 1, 8)...), wholeList(6)}
	for _, key := range noKeys() {
		checkPlaces(t, list, "root", key, 20)
		checkStatus(t, list, letterOfRoot(1), key, 20, impl.StNone, 0)
		checkStatus(t, list, letterOfRoot(4), key, 20, impl.StNone, 0)
	}
	checkPlaces(t, list, "root", impl.PublicAt(0), 20, 0, 1, 2)
}

// TestStatusWithoutLists: no lists at all, nil or empty.
func TestStatusWithoutLists(t *testing.T) {
	for _, list := range [][]impl.Crl{nil, {}, make([]impl.Crl, 0, 5)} {
		for _, time := range edgeNumbers() {
			checkPlaces(t, list, "root", impl.PublicAt(0), time)
			checkStatus(t, list, letterOfRoot(1), impl.PublicAt(0), time, impl.StNone, 0)
			checkStatus(t, list, impl.Cert{}, "", time, impl.StNone, 0)
		}
		if _, ok := checkWholeOf(t, list); ok {
			t.Error("WholeOf of no lists is true")
		}
		if _, ok := checkDeltaOf(t, list, wholeList(1)); ok {
			t.Error("DeltaOf of no lists is true")
		}
	}
}

// numbered: a list of which no more is asked; the name tells two of one Num apart.
func numbered(name string, num, base int) impl.Crl {
	return impl.Crl{Issuer: name, Num: num, This: 10, Next: 90, Base: base, Revs: revsFrom(1, len(name), 1), Sig: "by " + name}
}

// checkFound: what was found is the one with this name, or none.
func checkFound(t *testing.T, name string, got impl.Crl, ok bool, want string) {
	t.Helper()
	if ok != (want != "") || got.Issuer != want {
		t.Errorf("%s: found %q %v, want %q", name, got.Issuer, ok, want)
	}
}

func TestWholeOf(t *testing.T) {
	cases := []struct {
		name string
		list []impl.Crl
		want string
	}{
		{"one", []impl.Crl{numbered("a", 5, 0)}, "a"},
		{"the greatest first", []impl.Crl{numbered("a", 9, 0), numbered("b", 7, 0), numbered("c", 8, 0)}, "a"},
		{"the greatest between", []impl.Crl{numbered("a", 7, 0), numbered("b", 9, 0), numbered("c", 8, 0)}, "b"},
		{"the greatest last", []impl.Crl{numbered("a", 7, 0), numbered("b", 8, 0), numbered("c", 9, 0)}, "c"},
		{"two with one Num", []impl.Crl{numbered("a", 9, 0), numbered("b", 9, 0)}, "a"},
		{"two with one Num, behind a lesser one", []impl.Crl{numbered("a", 8, 0), numbered("b", 9, 0), numbered("c", 8, 0), numbered("d", 9, 0)}, "b"},
		{"all with one Num", []impl.Crl{numbered("a", 1, 0), numbered("b", 1, 0), numbered("c", 1, 0)}, "a"},
		{"changes alone", []impl.Crl{numbered("a", 9, 1), numbered("b", 8, 7)}, ""},
		{"newer changes", []impl.Crl{numbered("a", 9, 1), numbered("b", 3, 0), numbered("c", 9999, 9998)}, "b"},
		{"changes with the same Num ahead", []impl.Crl{numbered("a", 9, 8), numbered("b", 9, 0)}, "b"},
		{"the first one a change with less", []impl.Crl{numbered("a", 1, 1), numbered("b", 9, 0), numbered("c", 8, 0)}, "b"},
		{"Nums at their edges", []impl.Crl{numbered("a", 1, 0), numbered("b", 9999, 0), numbered("c", 9998, 0)}, "b"},
		{"a Base below 0", []impl.Crl{numbered("a", 9, -1), numbered("b", 3, 0)}, "b"},
		{"a Num of 0", []impl.Crl{numbered("a", 0, 0)}, "a"},
		{"Nums below 0", []impl.Crl{numbered("a", -5, 0), numbered("b", -3, 0), numbered("c", -4, 0)}, "b"},
		{"the least Num that there is", []impl.Crl{numbered("a", math.MinInt, 0), numbered("b", math.MinInt, 0)}, "a"},
		{"Nums far apart", []impl.Crl{numbered("a", math.MinInt, 0), numbered("b", math.MaxInt, 0), numbered("c", 1, 0)}, "b"},
		{"Nums of 33 bits", []impl.Crl{numbered("a", 5, 0), numbered("b", 1<<32+1, 0), numbered("c", 1<<32, 0)}, "b"},
	}
	for _, c := range cases {
		got, ok := checkWholeOf(t, c.list)
		checkFound(t, c.name, got, ok, c.want)
	}
	if got, ok := checkWholeOf(t, []impl.Crl{{}}); !ok || !sameList(got, impl.Crl{}) {
		t.Errorf("of a list that is nothing: %#v %v", got, ok)
	}
}

func TestDeltaOf(t *testing.T) {
	whole := numbered("whole", 5, 0)
	cases := []struct {
		name string
		list []impl.Crl
		want string
	}{
		{"one", []impl.Crl{numbered("a", 7, 3)}, "a"},
		{"a Base of 0", []impl.Crl{numbered("a", 7, 0)}, ""},
		{"a Base of 1", []impl.Crl{numbered("a", 7, 1)}, "a"},
		{"a Base below whole's Num", []impl.Crl{numbered("a", 7, 4)}, "a"},
		{"a Base of whole's Num", []impl.Crl{numbered("a", 7, 5)}, "a"},
		{"a Base above whole's Num", []impl.Crl{numbered("a", 7, 6)}, ""},
		{"a Num below whole's", []impl.Crl{numbered("a", 4, 3)}, ""},
		{"a Num of whole's", []impl.Crl{numbered("a", 5, 3)}, ""},
		{"a Num above whole's", []impl.Crl{numbered("a", 6, 3)}, "a"},
		{"as near as may be", []impl.Crl{numbered("a", 6, 5)}, "a"},
		{"the whole one itself", []impl.Crl{whole}, ""},
		{"newer whole ones", []impl.Crl{numbered("a", 9, 0), numbered("b", 6, 2), numbered("c", 8, 0)}, "b"},
		{"the greatest first", []impl.Crl{numbered("a", 9, 5), numbered("b", 7, 5), numbered("c", 8, 5)}, "a"},
		{"the greatest between", []impl.Crl{numbered("a", 7, 5), numbered("b", 9, 1), numbered("c", 8, 5)}, "b"},
		{"the greatest last", []impl.Crl{numbered("a", 7, 5), numbered("b", 8, 5), numbered("c", 9, 2)}, "c"},
		{"two with one Num", []impl.Crl{numbered("a", 9, 2), numbered("b", 9, 5)}, "a"},
		{"two with one Num, behind a lesser one", []impl.Crl{numbered("a", 8, 5), numbered("b", 9, 5), numbered("c", 9, 2)}, "b"},
		{"the greatest since a later one", []impl.Crl{numbered("a", 9, 6), numbered("b", 7, 5), numbered("c", 8, 7)}, "b"},
		{"two with one Num, the first since a later one", []impl.Crl{numbered("a", 9, 6), numbered("b", 9, 5)}, "b"},
		{"two with one Num, the first whole", []impl.Crl{numbered("a", 9, 0), numbered("b", 9, 5)}, "b"},
		{"a greater Base is no matter", []impl.Crl{numbered("a", 8, 5), numbered("b", 9, 1)}, "b"},
		{"older ones alone", []impl.Crl{numbered("a", 3, 2), numbered("b", 4, 1), numbered("c", 5, 4)}, ""},
		{"a Base below 0", []impl.Crl{numbered("a", 7, -1)}, "a"},
		{"a Base far below 0", []impl.Crl{numbered("a", 7, math.MinInt)}, "a"},
		{"a Base of its own Num", []impl.Crl{numbered("a", 7, 7), numbered("b", 6, 5)}, "b"},
		{"a Base far above", []impl.Crl{numbered("a", 7, math.MaxInt)}, ""},
		{"Nums far apart", []impl.Crl{numbered("a", math.MinInt, 1), numbered("b", math.MaxInt, 1), numbered("c", 6, 1)}, "b"},
		{"Nums of 33 bits", []impl.Crl{numbered("a", 9, 1), numbered("b", 1<<32+1, 1), numbered("c", 8, 1<<32+1)}, "b"},
	}
	for _, c := range cases {
		got, ok := checkDeltaOf(t, c.list, whole)
		checkFound(t, c.name, got, ok, c.want)
		// Of the whole one its Num alone counts.
		got, ok = checkDeltaOf(t, c.list, impl.Crl{Num: 5, Base: 9, Issuer: "x", This: -1, Next: -1, Revs: revsFrom(0, 9, 0)})
		checkFound(t, c.name+", by a Num alone", got, ok, c.want)
	}
}

// TestDeltaOfEdges: each Base and Num about each Num of the whole list.
func TestDeltaOfEdges(t *testing.T) {
	numbers := append(edgeNumbers(), 3, 4, 5)
	for _, num := range numbers {
		for _, base := range append(edgeNumbers(), num-1, num, num+1) {
			for _, of := range append(edgeNumbers(), num-1, num, num+1, base, base+1) {
				x := impl.Crl{Issuer: "a", Num: of, Base: base}
				got, ok := impl.DeltaOf([]impl.Crl{x}, impl.Crl{Num: num})
				want := base != 0 && !(base > num) && of > num
				if ok != want || want && !sameList(got, x) || !want && !sameList(got, impl.Crl{}) {
					t.Fatalf("whole Num %d, Base %d, Num %d: %#v %v, want %v", num, base, of, got, ok, want)
				}
			}
		}
	}
}

// TestNewestOfAllShortLists: whole lists and changes of few Nums in any order.
func TestNewestOfAllShortLists(t *testing.T) {
	kinds := [][2]int{{1, 0}, {2, 0}, {3, 0}, {2, 1}, {3, 1}, {3, 2}, {-1, 0}, {4, -1}}
	found := map[string]int{}
	allLists(kinds, 4, func(list [][2]int) {
		lists := []impl.Crl{}
		for i, kind := range list {
			lists = append(lists, numbered(strings.Repeat("n", i+1), kind[0], kind[1]))
		}
		_, whole := checkWholeOf(t, lists)
		for num := range 5 {
			_, delta := checkDeltaOf(t, lists, impl.Crl{Num: num - 1})
			found[fmt.Sprint(whole, delta)]++
		}
	})
	if len(found) != 4 {
		t.Errorf("found %v: the cases are none", found)
	}
}

func TestStatusOf(t *testing.T) {
	rev := func(serial, reason int) impl.Rev { return impl.Rev{Serial: serial, Reason: reason} }
	whole := wholeList(5, rev(1, 1), rev(2, 2), rev(3, 3), rev(9, 10))
	delta := changesSince(5, 7, rev(2, 8), rev(3, 6), rev(4, 4), rev(5, 8))
	for _, list := range [][]impl.Crl{{whole, delta}, {delta, whole}} {
		checkSerial(t, list, 1, impl.StGone, 1)
		checkSerial(t, list, 2, impl.StGood, 0)
		checkSerial(t, list, 3, impl.StGone, 6)
		checkSerial(t, list, 4, impl.StGone, 4)
		checkSerial(t, list, 5, impl.StGood, 0)
		checkSerial(t, list, 6, impl.StGood, 0)
		checkSerial(t, list, 0, impl.StGood, 0)
		checkSerial(t, list, 8, impl.StGood, 0)
		checkSerial(t, list, 9, impl.StGone, 10)
		checkSerial(t, list, 10, impl.StGood, 0)
	}
	// Without changes the whole list alone counts; without it nothing does.
	for serial, reason := range map[int]int{0: 0, 1: 1, 2: 2, 3: 3, 4: 0, 5: 0, 6: 0, 9: 10} {
		checkSerial(t, []impl.Crl{whole}, serial, map[bool]int{true: impl.StGood, false: impl.StGone}[reason == 0], reason)
		checkSerial(t, []impl.Crl{delta}, serial, impl.StNone, 0)
	}
}

// TestStatusOfTwoLists: each Reason in the whole list, in the changes, and in both, and none.
func TestStatusOfTwoLists(t *testing.T) {
	told := func(reason int) []impl.Rev {
		if reason == 0 {
			return nil
		}
		return []impl.Rev{{Serial: 6, Reason: reason}}
	}
	for first := range 11 {
		if first == 8 {
			continue
		}
		whole := wholeList(5, told(first)...)
		for second := range 11 {
			list := []impl.Crl{whole, changesSince(3, 6, told(second)...)}
			status, reason := impl.StGone, second
			switch {
			case second == 8 || first == 0 && second == 0:
				status, reason = impl.StGood, 0
			case second == 0:
				reason = first
			}
			checkSerial(t, list, 6, status, reason)
			checkSerial(t, list, 7, impl.StGood, 0)
			slices.Reverse(list)
			checkSerial(t, list, 6, status, reason)
		}
	}
}

// TestStatusByTheNewest: what older lists tell, and changes that don't join, is no matter.
func TestStatusByTheNewest(t *testing.T) {
	gone := func(reason int) impl.Rev { return impl.Rev{Serial: 6, Reason: reason} }
	other := impl.Rev{Serial: 7, Reason: 1}
	cases := []struct {
		name           string
		list           []impl.Crl
		status, reason int
	}{
		{"a newer whole list without it", []impl.Crl{wholeList(5, gone(1)), wholeList(6)}, impl.StGood, 0},
		{"a newer whole list ahead", []impl.Crl{wholeList(6), wholeList(5, gone(1))}, impl.StGood, 0},
		{"an older whole list without it", []impl.Crl{wholeList(4), wholeList(5, gone(1))}, impl.StGone, 1},
		{"two whole lists of one Num", []impl.Crl{wholeList(5, gone(1)), wholeList(5, gone(2))}, impl.StGone, 1},
		{"two whole lists of one Num, the first without it", []impl.Crl{wholeList(5, other), wholeList(5, gone(2))}, impl.StGood, 0},
		{"changes since 1", []impl.Crl{wholeList(5, gone(1)), changesSince(1, 6, gone(2))}, impl.StGone, 2},
		{"changes since one before", []impl.Crl{wholeList(5, gone(1)), changesSince(4, 6, gone(8))}, impl.StGood, 0},
		{"changes since it", []impl.Crl{wholeList(5, gone(1)), changesSince(5, 6, gone(8))}, impl.StGood, 0},
		{"changes since a later one", []impl.Crl{wholeList(5, gone(1)), changesSince(6, 7, gone(8))}, impl.StGone, 1},
		{"changes since a later one call it back", []impl.Crl{wholeList(5), changesSince(6, 7, gone(2))}, impl.StGood, 0},
		{"changes of its own Num", []impl.Crl{wholeList(5, gone(1)), changesSince(4, 5, gone(8))}, impl.StGone, 1},
		{"changes of an older Num", []impl.Crl{wholeList(5, gone(1)), changesSince(3, 4, gone(8))}, impl.StGone, 1},
		{"changes of an older Num call it back", []impl.Crl{wholeList(5), changesSince(3, 4, gone(3))}, impl.StGood, 0},
		{"changes between two whole lists", []impl.Crl{wholeList(5), changesSince(5, 6, gone(3)), wholeList(7)}, impl.StGood, 0},
		{"changes behind two whole lists", []impl.Crl{wholeList(5, gone(2)), changesSince(5, 8, gone(3)), wholeList(7)}, impl.StGone, 3},
		{"the newest changes alone", []impl.Crl{wholeList(5), changesSince(5, 6, gone(3)), changesSince(5, 7, other)}, impl.StGood, 0},
		{"the newest changes ahead", []impl.Crl{changesSince(5, 7, other), changesSince(5, 6, gone(3)), wholeList(5)}, impl.StGood, 0},
		{"the newest changes take back", []impl.Crl{wholeList(5), changesSince(5, 6, gone(3)), changesSince(5, 7, gone(8))}, impl.StGood, 0},
		{"older changes take back", []impl.Crl{wholeList(5, gone(1)), changesSince(5, 6, gone(8)), changesSince(5, 7, gone(4))}, impl.StGone, 4},
		{"older changes take back, newer ones are silent", []impl.Crl{wholeList(5, gone(1)), changesSince(5, 6, gone(8)), changesSince(5, 7, other)}, impl.StGone, 1},
		{"newer changes that don't join", []impl.Crl{wholeList(5), changesSince(5, 6, gone(3)), changesSince(6, 7, gone(8))}, impl.StGone, 3},
		{"two changes of one Num", []impl.Crl{changesSince(5, 6, gone(3)), changesSince(4, 6, gone(8)), wholeList(5, gone(1))}, impl.StGone, 3},
		{"two changes of one Num, the other way round", []impl.Crl{changesSince(4, 6, gone(8)), changesSince(5, 6, gone(3)), wholeList(5, gone(1))}, impl.StGood, 0},
		{"taken back without having been called", []impl.Crl{wholeList(5, other), changesSince(5, 6, gone(8))}, impl.StGood, 0},
		{"a whole list of nothing", []impl.Crl{wholeList(5)}, impl.StGood, 0},
		{"a whole list of nothing, and changes", []impl.Crl{wholeList(5), changesSince(5, 6, gone(9))}, impl.StGone, 9},
		{"changes of nothing", []impl.Crl{wholeList(5, gone(7)), changesSince(5, 6)}, impl.StGone, 7},
		{"both of nothing", []impl.Crl{wholeList(1), changesSince(1, 2)}, impl.StGood, 0},
		{"changes alone", []impl.Crl{changesSince(5, 6, gone(3))}, impl.StNone, 0},
		{"changes alone, which take back", []impl.Crl{changesSince(5, 6, gone(8)), changesSince(1, 2, gone(8))}, impl.StNone, 0},
		{"changes of nothing alone", []impl.Crl{changesSince(1, 2)}, impl.StNone, 0},
		{"the greatest Nums", []impl.Crl{wholeList(9998, gone(1)), changesSince(9998, 9999, gone(8))}, impl.StGood, 0},
		{"the least Nums", []impl.Crl{changesSince(1, 2, gone(8)), wholeList(1, gone(1))}, impl.StGood, 0},
		{"a Num of 10 is above one of 9", []impl.Crl{wholeList(9, gone(1)), wholeList(10, gone(2))}, impl.StGone, 2},
	}
	for _, c := range cases {
		t.Run(c.name, func(t *testing.T) { checkSerial(t, c.list, 6, c.status, c.reason) })
	}
}

// TestStatusOverlooksOthers: a newer list that is not to be believed leaves all as it is, whatever is wrong with it.
func TestStatusOverlooksOthers(t *testing.T) {
	whole := wholeList(5, impl.Rev{Serial: 6, Reason: 4}, impl.Rev{Serial: 7, Reason: 1})
	delta := changesSince(5, 6, impl.Rev{Serial: 7, Reason: 8})
	newer := []impl.Crl{wholeList(8), wholeList(8, revsFrom(6, 3, 2)...), changesSince(5, 8, revsFrom(6, 1, 8)...), changesSince(5, 8, revsFrom(6, 3, 2)...)}
	for _, x := range newer {
		for name, other := range map[string]impl.Crl{
			"not yet":         resigned(x, 0, func(x *impl.Crl) { x.This = 21 }),
			"no more":         resigned(x, 0, func(x *impl.Crl) { x.Next = 19 }),
			"another issuer":  resigned(x, 0, func(x *impl.Crl) { x.Issuer = "ca.org" }),
			"an issuer below": resigned(x, 0, func(x *impl.Crl) { x.Issuer = "a.root" }),
			"another house":   resigned(x, 1, func(x *impl.Crl) {}),
			"nobody":          resigned(x, -1, func(x *impl.Crl) {}),
			"a spoilt Sig":    changedList(x, func(x *impl.Crl) { x.Sig = turned(x.Sig, 14, 1) }),
			"a changed list":  changedList(x, func(x *impl.Crl) { x.Num++ }),
			"not right":       resigned(x, 0, func(x *impl.Crl) { x.Revs = revsFrom(6, 9, 2) }),
			"a wrong Reason":  resigned(x, 0, func(x *impl.Crl) { x.Revs = revsFrom(6, 1, 11) }),
		} {
			for _, list := range [][]impl.Crl{{whole, delta, other}, {other, whole, delta}, {delta, other, other, whole}} {
				t.Run(name, func(t *testing.T) {
					checkSerial(t, list, 6, impl.StGone, 4)
					checkSerial(t, list, 7, impl.StGood, 0)
					checkSerial(t, list, 8, impl.StGood, 0)
				})
			}
			checkSerial(t, []impl.Crl{other, delta}, 6, impl.StNone, 0)
			checkSerial(t, []impl.Crl{other, whole}, 7, impl.StGone, 1)
		}
		// The same list as it was signed counts.
		got, _ := impl.StatusOf([]impl.Crl{whole, delta, x}, letterOfRoot(6), impl.PublicAt(0), 20)
		want := map[bool]int{true: impl.StGone, false: impl.StGood}[len(x.Revs) == 3]
		if got != want {
			t.Errorf("with a newer list that is believed: %d, want %d", got, want)
		}
	}
}

// TestStatusTimes: as time goes on, lists come and go.
func TestStatusTimes(t *testing.T) {
	at := func(this, next int, x impl.Crl) impl.Crl {
		return resigned(x, 0, func(x *impl.Crl) { x.This, x.Next = this, next })
	}
	list := []impl.Crl{
		at(10, 40, wholeList(1, revsFrom(6, 1, 1)...)),
		at(20, 30, changesSince(1, 2, revsFrom(6, 1, 8)...)),
		at(35, 60, wholeList(3, revsFrom(6, 1, 3)...)),
		at(50, 80, changesSince(3, 4, revsFrom(6, 1, 5)...)),
		at(70, 9999, wholeList(9)),
	}
	for time := range 120 {
		status, reason := impl.StNone, 0
		switch {
		case time >= 70, time >= 20 && time <= 30:
			status = impl.StGood
		case time >= 50 && time <= 60:
			status, reason = impl.StGone, 5
		case time >= 35 && time <= 60:
			status, reason = impl.StGone, 3
		case time >= 10 && time <= 40:
			status, reason = impl.StGone, 1
		}
		checkStatus(t, list, letterOfRoot(6), impl.PublicAt(0), time, status, reason)
	}
	for _, time := range edgeNumbers() {
		status, reason := statusByHand(t, list, letterOfRoot(6), impl.PublicAt(0), time)
		if far := time < 0 || time > 9999; far && status != impl.StNone {
			t.Fatalf("time %d: the case is none", time)
		}
		checkStatus(t, list, letterOfRoot(6), impl.PublicAt(0), time, status, reason)
	}
}

// TestStatusSerials: full lists, each Serial about theirs, and Serials that no letter may have.
func TestStatusSerials(t *testing.T) {
	whole := wholeList(5, revsFrom(0, 8, 2)...)
	delta := changesSince(5, 6, append(revsFrom(4, 6, 8), impl.Rev{Serial: 9998, Reason: 9}, impl.Rev{Serial: 9999, Reason: 10})...)
	list := []impl.Crl{whole, delta}
	for serial := -3; serial <= 12; serial++ {
		if serial >= 0 && serial < 4 {
			checkSerial(t, list, serial, impl.StGone, 2)
		} else {
			checkSerial(t, list, serial, impl.StGood, 0)
		}
	}
	for serial, reason := range map[int]int{9997: 0, 9998: 9, 9999: 10, 10000: 0, 1 << 32: 0, 1<<32 + 1: 0, math.MaxInt: 0, math.MinInt: 0, 256: 0, 65536: 0} {
		checkSerial(t, list, serial, map[bool]int{true: impl.StGood, false: impl.StGone}[reason == 0], reason)
	}
}

// TestStatusOfAnyLetter: of a letter its Serial and its Issuer count, and nothing else, be it right or not.
func TestStatusOfAnyLetter(t *testing.T) {
	list := []impl.Crl{wholeList(5, revsFrom(6, 2, 4)...), changesSince(5, 6, revsFrom(7, 1, 8)...)}
	for _, c := range []impl.Cert{someLetter(), bareLetter(), fullLetter(), {}, {PathLen: -1, Usage: 99, From: 500, To: 3, Policies: []int{5, 5, -1}, Permits: []string{"", "x"}, Denies: []string{"\xff"}, Sig: "none", Key: "none"}} {
		for serial, reason := range map[int]int{6: 4, 7: 0, 8: 0} {
			letter := changed(c, func(c *impl.Cert) { c.Serial, c.Issuer = serial, "root" })
			checkStatus(t, list, letter, impl.PublicAt(0), 20, map[bool]int{true: impl.StGood, false: impl.StGone}[reason == 0], reason)
			for _, issuer := range []string{"", "roo", "roots", "org", "ROOT", "root ", c.Subject} {
				checkStatus(t, list, changed(letter, func(c *impl.Cert) { c.Issuer, c.Subject = issuer, "root" }), impl.PublicAt(0), 20, impl.StNone, 0)
			}
			// Nobody is asked by the key that the letter tells.
			checkStatus(t, list, changed(letter, func(c *impl.Cert) { c.Key = impl.PublicAt(0) }), impl.PublicAt(1), 20, impl.StNone, 0)
		}
	}
}

// listPool: signed lists of two issuers by two houses, of few Nums, times and Serials, and some of each that are spoilt.
func listPool(source *rand.Rand, count int) []impl.Crl {
	pool := []impl.Crl{}
	for range count {
		num := 1 + source.Intn(6)
		x := impl.Crl{Issuer: []string{"root", "root", "root", "ca.org"}[source.Intn(4)], Num: num, This: source.Intn(4), Next: 4 + source.Intn(4)}
		if num > 1 && source.Intn(2) > 0 {
			x.Base = 1 + source.Intn(num-1)
		}
		for serial := range 5 {
			if source.Intn(2) == 0 {
				reason := 1 + source.Intn(10)
				if x.Base > 0 && source.Intn(2) == 0 {
					reason = 8
				}
				if reason == 8 && x.Base == 0 {
					reason = 7
				}
				x.Revs = append(x.Revs, impl.Rev{Serial: serial, Reason: reason})
			}
		}
		x = impl.SignedCrl(x, []int{0, 0, 0, 1}[source.Intn(4)])
		switch source.Intn(20) {
		case 0:
			x.Sig = turned(x.Sig, source.Intn(15), byte(1+source.Intn(255)))
		case 1:
			x.Num++
		case 2:
			x.Revs = append(x.Revs, impl.Rev{Serial: -1, Reason: 1})
		}
		pool = append(pool, x)
	}
	return pool
}

// TestDrawnStatuses: promise 11 over drawn lists, in any order; when no two have one Num, another order tells the same.
func TestDrawnStatuses(t *testing.T) {
	source := rand.New(rand.NewSource(11))
	pool := listPool(source, 400)
	statuses, taken, kept := map[int]int{}, 0, 0
	for range 1500 {
		list, nums := []impl.Crl{}, []int{}
		for range source.Intn(12) {
			x := pool[source.Intn(len(pool))]
			list, nums = append(list, x), append(nums, x.Num)
		}
		slices.Sort(nums)
		shuffled := slices.Clone(list)
		if len(slices.Compact(nums)) == len(list) {
			source.Shuffle(len(list), func(i, j int) { shuffled[i], shuffled[j] = shuffled[j], shuffled[i] })
		}
		key, time := impl.PublicAt(source.Intn(8)/7), source.Intn(9)
		told := checkCrlsOf(t, list, "root", key, time)
		kept += len(told)
		whole, _ := checkWholeOf(t, told)
		delta, _ := checkDeltaOf(t, told, whole)
		for serial := range 6 {
			c := letterOfRoot(serial)
			status, reason := statusByHand(t, list, c, key, time)
			checkStatus(t, list, c, key, time, status, reason)
			checkStatus(t, shuffled, c, key, time, status, reason)
			// What is told by those that are kept is what is told by all.
			checkStatus(t, told, c, key, time, status, reason)
			statuses[status]++
			if impl.Listed(whole, serial) != 0 && impl.Listed(delta, serial) == 8 {
				taken++
			}
		}
	}
	if statuses[impl.StGood] < 1000 || statuses[impl.StGone] < 1000 || statuses[impl.StNone] < 1000 || taken < 50 || kept < 1000 {
		t.Errorf("statuses %v, %d taken back, %d kept: too few", statuses, taken, kept)
	}
}

// TestStatusAnswersAreNewMemory: who writes into an answer changes neither the lists that were handed in nor another answer.
func TestStatusAnswersAreNewMemory(t *testing.T) {
	whole, delta := wholeList(5, revsFrom(1, 8, 1)...), changesSince(5, 6, revsFrom(1, 5, 8)...)
	key := impl.PublicAt(0)
	list := []impl.Crl{whole, delta, whole, delta, wholeList(4)}
	before := []impl.Crl{}
	for _, x := range list {
		before = append(before, changedList(x, func(*impl.Crl) {}))
	}
	asItWas := func(name string, got []impl.Crl, want ...impl.Crl) {
		t.Helper()
		if !slices.EqualFunc(list, before, sameList) {
			t.Fatalf("%s: who writes into the answer writes into what was handed in", name)
		}
		if !slices.EqualFunc(got, want, sameList) {
			t.Fatalf("%s: %#v, want %#v: another answer was written into", name, got, want)
		}
	}
	first, second := impl.CrlsOf(list, "root", key, 20), impl.CrlsOf(list, "root", key, 20)
	checkOwnLists(t, "CrlsOf", append(slices.Clone(first), second...), list...)
	spoilRevs(first[0].Revs)
	asItWas("CrlsOf", first[1:], before[1:]...)
	for i := range first {
		spoilRevs(first[i].Revs)
		first[:cap(first)][i] = impl.Crl{}
	}
	asItWas("CrlsOf", second, before...)
	asItWas("CrlsOf", impl.CrlsOf(list, "root", key, 20), before...)

	one, _ := impl.WholeOf(list)
	two, _ := impl.WholeOf(list)
	checkOwnLists(t, "WholeOf", []impl.Crl{one, two}, list...)
	spoilRevs(one.Revs)
	asItWas("WholeOf", []impl.Crl{two}, before[0])

	one, _ = impl.DeltaOf(list, whole)
	two, _ = impl.DeltaOf(list, whole)
	checkOwnLists(t, "DeltaOf", []impl.Crl{one, two}, list...)
	spoilRevs(one.Revs)
	asItWas("DeltaOf", []impl.Crl{two}, before[1])
	checkSerial(t, list, 1, impl.StGood, 0)
	checkSerial(t, list, 6, impl.StGone, 1)
}
