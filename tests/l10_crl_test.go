package tests

import (
	"encoding/asn1"
	"math"
	"math/rand"
	"slices"
	"strings"
	"testing"

	"loop.example/g00394/impl"
)

// someList: a right one, whole, with something in each of its fields but Base.
func someList() impl.Crl {
	return impl.Crl{
		Issuer: "ca.org", Num: 300, This: 10, Next: 9000, Revs: []impl.Rev{{Serial: 0, Reason: 1}, {Serial: 5, Reason: 10}, {Serial: 300, Reason: 7}, {Serial: 9999, Reason: 9}}, Sig: "\x00\x01said by hand\xff",
	}
}

// deltaList: a right one that tells what changed.
func deltaList() impl.Crl {
	return impl.Crl{
		Issuer: "root", Num: 7, This: 20, Next: 50, Base: 5, Revs: []impl.Rev{{Serial: 1, Reason: 8}, {Serial: 128, Reason: 1}, {Serial: 255, Reason: 8}}, Sig: textOfSize(15),
	}
}

// emptyList: a right one, of as little as there may be.
func emptyList() impl.Crl {
	return impl.Crl{Issuer: "a", Num: 1, Sig: strings.Repeat("\x00", 15)}
}

// emptyDelta: a right one that tells that nothing changed.
func emptyDelta() impl.Crl {
	return impl.Crl{Issuer: "b.a", Num: 2, This: 1, Next: 1, Base: 1, Sig: strings.Repeat("\x80", 15)}
}

// fullList: a right one, of as much as there may be.
func fullList() impl.Crl {
	return impl.Crl{Issuer: "r.t" + strings.Repeat("z", 17), Num: 9999, This: 9999, Next: 9999, Base: 9998, Revs: revsFrom(9992, 8, 10), Sig: strings.Repeat("\xff", 15)}
}

func rightLists() []impl.Crl {
	return []impl.Crl{someList(), deltaList(), emptyList(), emptyDelta(), fullList()}
}

// revsFrom: so many, of Serials that follow each other.
func revsFrom(serial, count, reason int) []impl.Rev {
	list := []impl.Rev{}
	for i := range count {
		list = append(list, impl.Rev{Serial: serial + i, Reason: reason})
	}
	return list
}

// changedList: the list with one thing done to it, in memory of its own.
func changedList(x impl.Crl, change func(x *impl.Crl)) impl.Crl {
	x.Revs = slices.Clone(x.Revs)
	change(&x)
	return x
}

func sameList(a, b impl.Crl) bool {
	return a.Issuer == b.Issuer && a.Num == b.Num && a.This == b.This && a.Next == b.Next && a.Base == b.Base && a.Sig == b.Sig && slices.Equal(a.Revs, b.Revs)
}

// listRight: CrlOk by hand.
func listRight(x impl.Crl) bool {
	if !nameByLibrary(x.Issuer) || x.Num < 1 || x.Num > 9999 || x.Base < 0 || x.Base >= x.Num || len(x.Sig) != 15 || len(x.Revs) > 8 {
		return false
	}
	if x.This < 0 || x.This > 9999 || x.Next < 0 || x.Next > 9999 {
		return false
	}
	last := -1
	for _, rev := range x.Revs {
		if rev.Serial <= last || rev.Serial > 9999 || rev.Reason < 1 || rev.Reason > 10 || rev.Reason == 8 && x.Base == 0 {
			return false
		}
		last = rev.Serial
	}
	return true
}

func listBodyByHand(t *testing.T, x impl.Crl) impl.Item {
	t.Helper()
	revs := itemOf(48, "")
	for _, rev := range x.Revs {
		revs.Kids = append(revs.Kids, itemOf(48, "", numberItem(t, rev.Serial), numberItem(t, rev.Reason)))
	}
	return itemOf(48, "", itemOf(12, x.Issuer), numberItem(t, x.Num), numberItem(t, x.This), numberItem(t, x.Next), numberItem(t, x.Base), revs)
}

func listByHand(t *testing.T, x impl.Crl) impl.Item {
	t.Helper()
	return itemOf(48, "", listBodyByHand(t, x), itemOf(4, x.Sig))
}

// listBodyTextByHand: nothing when the Issuer has a byte that no text may have, there are too many Revs, or all of it is too long.
func listBodyTextByHand(t *testing.T, x impl.Crl) string {
	t.Helper()
	if len(x.Revs) > 40 || strings.ContainsFunc(x.Issuer, func(r rune) bool { return r < 32 || r > 126 }) {
		return ""
	}
	if text := textByLibrary(t, listBodyByHand(t, x)); len(text) <= 4000 {
		return text
	}
	return ""
}

func listedByHand(x impl.Crl, serial int) int {
	if at := slices.IndexFunc(x.Revs, func(rev impl.Rev) bool { return rev.Serial == serial }); at >= 0 {
		return x.Revs[at].Reason
	}
	return 0
}

// guardedList: x with Revs that have room behind them, and whether all of that is still as it was.
func guardedList(x impl.Crl) (impl.Crl, func() bool) {
	behind := impl.Rev{Serial: 77, Reason: 7}
	room := append(slices.Clone(x.Revs), behind, behind, behind)
	before := slices.Clone(room)
	handed := x
	handed.Revs = room[:len(x.Revs)]
	return handed, func() bool { return slices.Equal(room, before) }
}

type listParts struct {
	Body struct {
		Issuer                asn1.RawValue
		Num, This, Next, Base int64
		Revs                  []struct{ Serial, Reason int64 }
	}
	Sig []byte
}

// listByLibrary: the right list that the library's own reader of this form finds in the text. As that overlooks what stands behind the last part of a list, and tags of texts, the list is written again, and must make the same bytes.
func listByLibrary(t *testing.T, text string) (impl.Crl, bool) {
	t.Helper()
	var parts listParts
	rest, err := asn1.Unmarshal([]byte(text), &parts)
	if err != nil || len(rest) > 0 {
		return impl.Crl{}, false
	}
	body := parts.Body
	x := impl.Crl{Issuer: string(body.Issuer.Bytes), Num: int(body.Num), This: int(body.This), Next: int(body.Next), Base: int(body.Base), Sig: string(parts.Sig)}
	for _, rev := range body.Revs {
		x.Revs = append(x.Revs, impl.Rev{Serial: int(rev.Serial), Reason: int(rev.Reason)})
	}
	if !listRight(x) || textByLibrary(t, listByHand(t, x)) != text {
		return impl.Crl{}, false
	}
	return x, true
}

// checkReadList: what ReadCrl answers of a text is held against the library's reader, whole; what is read is written to the same bytes. It tells whether there is a list.
func checkReadList(t *testing.T, text string) bool {
	t.Helper()
	want, ok := listByLibrary(t, text)
	before := strings.Clone(text)
	got, right := impl.ReadCrl(text)
	if right != ok || !sameList(got, want) || text != before {
		t.Fatalf("ReadCrl(%.400q) = %#v %v, want %#v %v", text, got, right, want, ok)
	}
	if !ok {
		return false
	}
	if again, written := impl.CrlText(got); !written || again != text || !impl.CrlOk(got) {
		t.Fatalf("ReadCrl(%q) is true; CrlText of it %q %v", text, again, written)
	}
	return true
}

func checkNoList(t *testing.T, text string) {
	t.Helper()
	if checkReadList(t, text) {
		t.Fatalf("%.400q: the case is none, there is a list in it", text)
	}
}

func checkListed(t *testing.T, x impl.Crl, serial int) {
	t.Helper()
	handed, untouched := guardedList(x)
	if got, want := impl.Listed(handed, serial), listedByHand(x, serial); got != want || !untouched() {
		t.Fatalf("Listed(%#v, %d) = %d, want %d; untouched: %v", x, serial, got, want, untouched())
	}
}

// checkList: all that is asked of one list but SignedCrl, whole; promise 10, when it is right.
func checkList(t *testing.T, x impl.Crl, want bool) {
	t.Helper()
	if byHand := listRight(x); byHand != want {
		t.Fatalf("%#v: the case is none, by hand it is %v", x, byHand)
	}
	handed, untouched := guardedList(x)
	if got := impl.CrlOk(handed); got != want {
		t.Fatalf("CrlOk(%#v) = %v, want %v", x, got, want)
	}
	body := listBodyTextByHand(t, x)
	if got := impl.CrlBody(handed); got != body {
		t.Fatalf("CrlBody(%#v) = %.400q, want %.400q", x, got, body)
	}
	whole := textByLibrary(t, listByHand(t, x))
	text, ok := impl.CrlText(handed)
	if wantText := map[bool]string{true: whole}[want]; ok != want || text != wantText {
		t.Fatalf("CrlText(%#v) = %.400q %v, want %.400q %v", x, text, ok, wantText, want)
	}
	if !untouched() {
		t.Fatalf("%#v: what was handed in is written to", x)
	}
	for _, rev := range x.Revs[:min(len(x.Revs), 60)] {
		checkListed(t, x, rev.Serial)
		checkListed(t, x, rev.Serial+1)
		checkListed(t, x, rev.Serial-1)
	}
	if !want {
		// Its bytes may be those of a right one: numbers out of range are told as 0.
		if checkReadList(t, whole) && sameList(x, readListBack(t, whole)) {
			t.Fatalf("%#v: it is not right, and comes back", x)
		}
		return
	}
	if !strings.Contains(text, body) || body == "" {
		t.Fatalf("CrlText(%#v) = %q, in which CrlBody %q does not stand", x, text, body)
	}
	if back := readListBack(t, text); !sameList(back, x) {
		t.Fatalf("%#v comes back as %#v", x, back)
	}
}

func readListBack(t *testing.T, text string) impl.Crl {
	t.Helper()
	if !checkReadList(t, text) {
		t.Fatalf("ReadCrl(%.400q) is false", text)
	}
	back, _ := impl.ReadCrl(text)
	return back
}

func TestListsInTheirBytes(t *testing.T) {
	sig := "\x00sig of hand\x00\xff\x00"
	cases := []struct {
		x    impl.Crl
		body string
		head string
	}{
		{
			impl.Crl{Issuer: "root", Num: 1, This: 10, Next: 200, Revs: []impl.Rev{{Serial: 1, Reason: 1}, {Serial: 9999, Reason: 10}}, Sig: sig},
			"\x30\x26" + "\x0c\x04root" + "\x02\x01\x01" + "\x02\x01\x0a" + "\x02\x02\x00\xc8" + "\x02\x01\x00" + "\x30\x11" + "\x30\x06\x02\x01\x01\x02\x01\x01" + "\x30\x07\x02\x02\x27\x0f\x02\x01\x0a",
			"\x30\x39",
		},
		{
			impl.Crl{Issuer: "a", Num: 1, Sig: sig},
			"\x30\x11" + "\x0c\x01a" + "\x02\x01\x01" + "\x02\x01\x00" + "\x02\x01\x00" + "\x02\x01\x00" + "\x30\x00",
			"\x30\x24",
		},
		{
			impl.Crl{Issuer: "b.c", Num: 9999, This: 9999, Next: 128, Base: 9998, Revs: []impl.Rev{{Serial: 0, Reason: 8}}, Sig: sig},
			"\x30\x1f" + "\x0c\x03b.c" + "\x02\x02\x27\x0f" + "\x02\x02\x27\x0f" + "\x02\x02\x00\x80" + "\x02\x02\x27\x0e" + "\x30\x08" + "\x30\x06\x02\x01\x00\x02\x01\x08",
			"\x30\x32",
		},
	}
	for _, c := range cases {
		whole := c.head + c.body + "\x04\x0f" + sig
		if got := impl.CrlBody(c.x); got != c.body {
			t.Errorf("CrlBody = %q, want %q", got, c.body)
		}
		if got, ok := impl.CrlText(c.x); !ok || got != whole {
			t.Errorf("CrlText = %q %v, want %q", got, ok, whole)
		}
		if got, ok := impl.ReadCrl(whole); !ok || !sameList(got, c.x) {
			t.Errorf("ReadCrl(%q) = %#v %v, want %#v", whole, got, ok, c.x)
		}
		checkList(t, c.x, true)
	}
}

func TestListsComeBack(t *testing.T) {
	for _, x := range rightLists() {
		checkList(t, x, true)
		for count, reason := range []int{1, 2, 3, 4, 5, 6, 7, 9, 10} {
			checkList(t, changedList(x, func(x *impl.Crl) { x.Revs = revsFrom(count, count, reason) }), true)
		}
	}
	// Nobody asks whether This is ahead of Next.
	checkList(t, changedList(someList(), func(x *impl.Crl) { x.This, x.Next = 90, 10 }), true)
}

// TestEmptyLists: without Revs a list is as right as with them, nil or not, and stays without them.
func TestEmptyLists(t *testing.T) {
	for _, x := range rightLists() {
		for _, revs := range [][]impl.Rev{nil, {}, someList().Revs[:0]} {
			empty := changedList(x, func(x *impl.Crl) { x.Revs = revs })
			checkList(t, empty, true)
			text, _ := impl.CrlText(empty)
			if back := readListBack(t, text); len(back.Revs) != 0 {
				t.Errorf("an empty list comes back with %d Revs", len(back.Revs))
			}
			if signed := checkSignedList(t, empty, 0); !impl.SigOk(impl.PublicAt(0), impl.CrlBody(signed), signed.Sig) {
				t.Error("what is signed of an empty list is not right")
			}
			for _, serial := range edgeNumbers() {
				if reason := impl.Listed(empty, serial); reason != 0 {
					t.Errorf("an empty list tells the Reason %d of %d", reason, serial)
				}
			}
		}
	}
}

// TestListsThatAreNothing: the zero value, and right lists with one field of it.
func TestListsThatAreNothing(t *testing.T) {
	checkList(t, impl.Crl{}, false)
	for _, x := range rightLists() {
		checkList(t, changedList(x, func(x *impl.Crl) { x.This, x.Next = 0, 0 }), true)
		checkList(t, changedList(x, func(x *impl.Crl) { x.Num = 0 }), false)
		checkList(t, changedList(x, func(x *impl.Crl) { x.Num, x.Base = 0, 0 }), false)
		checkList(t, changedList(x, func(x *impl.Crl) { x.Issuer = "" }), false)
		checkList(t, changedList(x, func(x *impl.Crl) { x.Sig = "" }), false)
		checkList(t, changedList(x, func(x *impl.Crl) { x.Revs = []impl.Rev{{}} }), false)
	}
}

func TestListTimes(t *testing.T) {
	for _, x := range rightLists() {
		for _, n := range edgeNumbers() {
			checkList(t, changedList(x, func(x *impl.Crl) { x.This = n }), n >= 0 && n <= 9999)
			checkList(t, changedList(x, func(x *impl.Crl) { x.Next = n }), n >= 0 && n <= 9999)
			checkList(t, changedList(x, func(x *impl.Crl) { x.This, x.Next = n, n }), n >= 0 && n <= 9999)
		}
	}
}

func TestListNums(t *testing.T) {
	whole, delta := emptyList(), emptyDelta()
	for n := -20; n <= 10020; n++ {
		checkList(t, changedList(whole, func(x *impl.Crl) { x.Num, x.This, x.Next = n, max(0, min(n, 9999)), 9999 }), n >= 1 && n <= 9999)
		checkList(t, changedList(delta, func(x *impl.Crl) { x.Num = n }), n >= 2 && n <= 9999)
		checkList(t, changedList(delta, func(x *impl.Crl) { x.Num, x.Base = 9999, n }), n >= 0 && n <= 9998)
	}
	for _, num := range edgeNumbers() {
		bases := append(edgeNumbers(), num-1, num, num+1, num-2, -num, num/2)
		for _, base := range bases {
			right := num >= 1 && num <= 9999 && base >= 0 && base < num
			checkList(t, changedList(whole, func(x *impl.Crl) { x.Num, x.Base = num, base }), right)
		}
	}
}

func TestListIssuers(t *testing.T) {
	edge := "abcdefghijklmnopqrst"
	names := map[string]bool{edge: true, edge + "u": false, edge[:19]: true}
	for _, name := range rightNames() {
		names[name] = true
	}
	for _, name := range wrongNames() {
		names[name] = false
	}
	for name, right := range names {
		for _, x := range rightLists() {
			checkList(t, changedList(x, func(x *impl.Crl) { x.Issuer = name }), right)
		}
	}
}

// TestHowManyRevs: 8 are right, 9 are not; more than 40 can't be written, either.
func TestHowManyRevs(t *testing.T) {
	for _, x := range rightLists() {
		for count := range 60 {
			for _, serial := range []int{0, 1, 100, 9999 - count} {
				many := changedList(x, func(x *impl.Crl) { x.Revs = revsFrom(serial, count, 1) })
				checkList(t, many, count <= 8)
				if text := impl.CrlBody(many); (text != "") != (count <= 40) {
					t.Errorf("CrlBody of %d Revs has %d bytes", count, len(text))
				}
			}
		}
	}
}

func TestRevSerials(t *testing.T) {
	for _, x := range rightLists() {
		for _, n := range edgeNumbers() {
			right := n >= 0 && n <= 9999
			checkList(t, changedList(x, func(x *impl.Crl) { x.Revs = []impl.Rev{{Serial: n, Reason: 1}} }), right)
			checkList(t, changedList(x, func(x *impl.Crl) { x.Revs = append(revsFrom(1, 1, 2), impl.Rev{Serial: n, Reason: 1}) }), right && n > 1)
			checkList(t, changedList(x, func(x *impl.Crl) { x.Revs = append([]impl.Rev{{Serial: n, Reason: 1}}, revsFrom(9998, 2, 2)...) }), right && n < 9998)
			// At the last place that there is.
			checkList(t, changedList(x, func(x *impl.Crl) { x.Revs = append(revsFrom(0, 7, 2), impl.Rev{Serial: n, Reason: 1}) }), right && n > 6)
		}
	}
}

// TestRevReasons: 8 with Base alone, at any place.
func TestRevReasons(t *testing.T) {
	numbers := edgeNumbers()
	for n := -20; n < 40; n++ {
		numbers = append(numbers, n)
	}
	for _, n := range numbers {
		for at := range 8 {
			for _, x := range []impl.Crl{emptyList(), emptyDelta(), someList(), fullList()} {
				right := n >= 1 && n <= 10 && (n != 8 || x.Base > 0)
				for _, count := range []int{at + 1, 8} {
					revs := revsFrom(40, count, 1)
					revs[at].Reason = n
					checkList(t, changedList(x, func(x *impl.Crl) { x.Revs = revs }), right)
				}
			}
		}
	}
	for base := range 7 {
		checkList(t, changedList(deltaList(), func(x *impl.Crl) { x.Base = base }), base > 0)
		checkList(t, changedList(deltaList(), func(x *impl.Crl) { x.Base, x.Revs[0].Reason, x.Revs[2].Reason = base, 7, 9 }), true)
	}
}

// TestRevsThatDoNotAscend: all short lists of Serials, with Reasons that are right.
func TestRevsThatDoNotAscend(t *testing.T) {
	allLists([]int{0, 1, 2, 9998, 9999}, 5, func(serials []int) {
		revs := []impl.Rev{}
		for i, serial := range serials {
			revs = append(revs, impl.Rev{Serial: serial, Reason: i + 1})
		}
		ascends := slices.Equal(serials, slices.Compact(slices.Sorted(slices.Values(serials))))
		checkList(t, changedList(emptyList(), func(x *impl.Crl) { x.Revs = revs }), ascends)
	})
	for _, x := range []impl.Crl{someList(), fullList()} {
		last := len(x.Revs) - 1
		checkList(t, changedList(x, func(x *impl.Crl) { slices.Reverse(x.Revs) }), false)
		checkList(t, changedList(x, func(x *impl.Crl) { x.Revs[last] = x.Revs[last-1] }), false)
		checkList(t, changedList(x, func(x *impl.Crl) { x.Revs[1].Serial = x.Revs[0].Serial }), false)
		checkList(t, changedList(x, func(x *impl.Crl) { x.Revs[0], x.Revs[last] = x.Revs[last], x.Revs[0] }), false)
		// By Serial alone, not by Reason.
		checkList(t, changedList(x, func(x *impl.Crl) {
			for i := range x.Revs {
				x.Revs[i].Reason = last + 1 - i
			}
		}), last < 7 || x.Base > 0)
	}
}

func TestListSigs(t *testing.T) {
	for size := range 300 {
		for _, x := range rightLists() {
			checkList(t, changedList(x, func(x *impl.Crl) { x.Sig = textOfSize(size) }), size == impl.KeySize)
		}
	}
	// Any bytes are a signature, right or not.
	for b := range 256 {
		text := strings.Repeat(string([]byte{byte(b)}), impl.KeySize)
		checkList(t, changedList(someList(), func(x *impl.Crl) { x.Sig = text }), true)
	}
}

// drawnList: a right one.
func drawnList(source *rand.Rand) impl.Crl {
	num := 1 + drawnNumber(source, 9998)
	x := impl.Crl{Issuer: drawnName(source), Num: num, This: drawnNumber(source, 9999), Next: drawnNumber(source, 9999), Base: drawnNumber(source, num-1), Sig: drawnKey(source)}
	serials := []int{}
	for range source.Intn(9) {
		serials = append(serials, drawnNumber(source, 9999))
	}
	for _, serial := range slices.Compact(slices.Sorted(slices.Values(serials))) {
		reason := 1 + source.Intn(10)
		if reason == 8 && x.Base == 0 {
			reason = 10
		}
		x.Revs = append(x.Revs, impl.Rev{Serial: serial, Reason: reason})
	}
	return x
}

func TestDrawnListsComeBack(t *testing.T) {
	source := rand.New(rand.NewSource(10))
	empty, back := 0, 0
	for range 5000 {
		x := drawnList(source)
		checkList(t, x, true)
		if len(x.Revs) == 0 {
			empty++
		}
		if slices.ContainsFunc(x.Revs, func(rev impl.Rev) bool { return rev.Reason == 8 }) {
			back++
		}
	}
	if empty < 200 || back < 200 {
		t.Errorf("%d empty, %d with Reason 8: too few", empty, back)
	}
}

// TestListsThatDiffer: no two right lists have one text; they have one CrlBody when they differ in Sig alone.
func TestListsThatDiffer(t *testing.T) {
	some := changedList(someList(), func(x *impl.Crl) { x.Base = 250 })
	list := []impl.Crl{some, someList(), deltaList(), emptyList(), emptyDelta(), fullList()}
	for _, change := range []func(x *impl.Crl){
		func(x *impl.Crl) { x.Issuer = "root" }, func(x *impl.Crl) { x.Num++ }, func(x *impl.Crl) { x.This++ }, func(x *impl.Crl) { x.Next++ }, func(x *impl.Crl) { x.Base++ }, func(x *impl.Crl) { x.This, x.Next = x.Next, x.This },
		func(x *impl.Crl) { x.Num, x.This = 301, 300 }, func(x *impl.Crl) { x.Num, x.This = 300, 301 }, func(x *impl.Crl) { x.Next, x.Base = 200, 100 }, func(x *impl.Crl) { x.Next, x.Base = 100, 200 },
		func(x *impl.Crl) { x.Revs = nil }, func(x *impl.Crl) { x.Revs = x.Revs[:3] }, func(x *impl.Crl) { x.Revs = x.Revs[1:] }, func(x *impl.Crl) { x.Revs[1].Serial = 6 }, func(x *impl.Crl) { x.Revs[1].Reason = 8 },
		func(x *impl.Crl) { x.Revs = []impl.Rev{{Serial: 5, Reason: 7}} }, func(x *impl.Crl) { x.Revs = []impl.Rev{{Serial: 7, Reason: 5}} }, func(x *impl.Crl) { x.Revs = []impl.Rev{{Serial: 5, Reason: 5}, {Serial: 7, Reason: 7}} },
	} {
		list = append(list, changedList(some, change))
	}
	for i, a := range list {
		checkList(t, a, true)
		if signed := changedList(a, func(x *impl.Crl) { x.Sig = textOfSize(15) }); impl.CrlBody(signed) != impl.CrlBody(a) {
			t.Errorf("list %d: its Sig is in its CrlBody", i)
		}
		for j, b := range list[:i] {
			one, _ := impl.CrlText(a)
			other, _ := impl.CrlText(b)
			if one == other || impl.CrlBody(a) == impl.CrlBody(b) {
				t.Errorf("lists %d and %d have one text", i, j)
			}
		}
	}
}

// checkSignedList: what house i signs is held whole.
func checkSignedList(t *testing.T, x impl.Crl, i int) impl.Crl {
	t.Helper()
	want := x
	want.Sig = ""
	if i >= 0 && i < impl.Secrets {
		want.Sig = signByLibrary(t, i, listBodyTextByHand(t, x))
	}
	handed, untouched := guardedList(x)
	got := impl.SignedCrl(handed, i)
	if !sameList(got, want) || !untouched() {
		t.Fatalf("SignedCrl(%#v, %d) = %#v, want %#v; untouched: %v", x, i, got, want, untouched())
	}
	return got
}

func TestSignedCrl(t *testing.T) {
	for _, x := range rightLists() {
		for i := range impl.Secrets {
			got := checkSignedList(t, x, i)
			checkList(t, got, true)
			for other := range impl.Secrets {
				if ok := impl.SigOk(impl.PublicAt(other), impl.CrlBody(got), got.Sig); ok != (other == i) {
					t.Errorf("signed by house %d, by the key of house %d it is %v", i, other, ok)
				}
			}
			// What was signed before is no matter, and signing it again changes nothing.
			for _, sig := range []string{"", "short", got.Sig, textOfSize(15), textOfSize(16), textOfSize(5000)} {
				if again := checkSignedList(t, changedList(x, func(x *impl.Crl) { x.Sig = sig }), i); !sameList(again, got) {
					t.Errorf("house %d signs otherwise of a list with a Sig of %d bytes", i, len(sig))
				}
			}
		}
		for _, i := range noHouses() {
			checkList(t, checkSignedList(t, x, i), false)
		}
	}
}

// TestSignedCrlOfWrongLists: what is signed is CrlBody, whatever the list is; the empty text, when there is none.
func TestSignedCrlOfWrongLists(t *testing.T) {
	wrong := []impl.Crl{{}}
	for _, change := range []func(x *impl.Crl){
		func(x *impl.Crl) { x.Num = 0 }, func(x *impl.Crl) { x.Num = 10000 }, func(x *impl.Crl) { x.Base = x.Num }, func(x *impl.Crl) { x.Base = -1 }, func(x *impl.Crl) { x.This = -1 }, func(x *impl.Crl) { x.Next = 1 << 40 },
		func(x *impl.Crl) { x.Issuer = "" }, func(x *impl.Crl) { x.Issuer = "No Name" }, func(x *impl.Crl) { slices.Reverse(x.Revs) }, func(x *impl.Crl) { x.Revs = revsFrom(9990, 40, 11) }, func(x *impl.Crl) { x.Revs[0].Reason = 8 }, func(x *impl.Crl) { x.Revs[0].Serial = math.MinInt },
		func(x *impl.Crl) { x.Issuer = "\n" }, func(x *impl.Crl) { x.Issuer = "\xff" }, func(x *impl.Crl) { x.Revs = revsFrom(0, 41, 1) }, func(x *impl.Crl) { x.Issuer = strings.Repeat("a", 4000) },
	} {
		wrong = append(wrong, changedList(someList(), change))
	}
	empty := 0
	for _, x := range wrong {
		checkList(t, x, false)
		for _, i := range append(noHouses(), 0, 1, 2, 3, 4, 5) {
			got := checkSignedList(t, x, i)
			if got.Sig != impl.SignWith(i, impl.CrlBody(x)) {
				t.Fatalf("SignedCrl(%#v, %d) has the Sig %x", x, i, got.Sig)
			}
			if impl.CrlOk(got) {
				t.Fatalf("SignedCrl(%#v, %d) makes it right", x, i)
			}
		}
		if impl.CrlBody(x) == "" {
			empty++
		}
	}
	if empty != 4 {
		t.Errorf("%d without CrlBody, want 4: the cases are none", empty)
	}
}

func TestSignedCrlOfDrawnLists(t *testing.T) {
	source := rand.New(rand.NewSource(101))
	for round := range 150 {
		i := round % impl.Secrets
		got := checkSignedList(t, drawnList(source), i)
		checkList(t, got, true)
		text, _ := impl.CrlText(got)
		back, ok := impl.ReadCrl(text)
		if !ok || !impl.SigOk(impl.PublicAt(i), impl.CrlBody(back), back.Sig) {
			t.Fatalf("signed by house %d, it comes back otherwise: %#v", i, back)
		}
		if back.Next ^= 1; impl.SigOk(impl.PublicAt(i), impl.CrlBody(back), back.Sig) {
			t.Fatalf("signed by house %d, the signature holds of another list, too: %#v", i, back)
		}
	}
}

// TestListBodiesThatCannotBe: what CrlBody answers of lists whose item can't be written, and just before.
func TestListBodiesThatCannotBe(t *testing.T) {
	for b := range 256 {
		for _, issuer := range []string{"a" + string([]byte{byte(b)}), string([]byte{byte(b)}) + "a", "a" + string([]byte{byte(b)}) + "a"} {
			x := changedList(someList(), func(x *impl.Crl) { x.Issuer = issuer })
			checkList(t, x, listRight(x))
			if text := impl.CrlBody(x); (text != "") != (b >= 32 && b <= 126) {
				t.Errorf("CrlBody with the byte %d has %d bytes", b, len(text))
			}
		}
	}
	for _, count := range []int{9, 39, 40, 41, 42, 100, 5000} {
		for _, rev := range []impl.Rev{{}, {Serial: 5, Reason: 1}, {Serial: 1000000000, Reason: 1000000000}, {Serial: -1, Reason: math.MaxInt}} {
			x := changedList(emptyList(), func(x *impl.Crl) { x.Revs = slices.Repeat([]impl.Rev{rev}, count) })
			checkList(t, x, false)
			if text := impl.CrlBody(x); (text != "") != (count <= 40) {
				t.Errorf("CrlBody of %d Revs has %d bytes", count, len(text))
			}
		}
	}
	// A longer Issuer, till the whole is too long.
	for _, x := range []impl.Crl{emptyList(), someList()} {
		longest := 0
		for size := 3800; size <= 4100; size++ {
			long := changedList(x, func(x *impl.Crl) { x.Issuer = strings.Repeat("i", size) })
			checkList(t, long, false)
			longest = max(longest, len(impl.CrlBody(long)))
		}
		if longest != impl.MaxBytes {
			t.Errorf("the longest CrlBody has %d bytes, want %d", longest, impl.MaxBytes)
		}
	}
	for _, size := range []int{65535, 65536, 1 << 20} {
		checkList(t, changedList(someList(), func(x *impl.Crl) { x.Issuer = strings.Repeat("i", size) }), false)
		checkList(t, changedList(someList(), func(x *impl.Crl) { x.Sig = strings.Repeat("s", size) }), false)
	}
}

func TestNoBytesAreNoList(t *testing.T) {
	for _, text := range strayTexts(t, rand.New(rand.NewSource(102))) {
		checkNoList(t, text)
	}
}

// TestListsAreNoLetters: what one reader takes the other one refuses.
func TestListsAreNoLetters(t *testing.T) {
	for _, c := range []impl.Cert{someLetter(), bareLetter(), fullLetter()} {
		text, _ := impl.CertText(c)
		checkNoList(t, text)
		checkNoList(t, impl.BodyText(c))
	}
	for _, x := range rightLists() {
		text, _ := impl.CrlText(x)
		checkNoLetter(t, text)
		checkNoLetter(t, impl.CrlBody(x))
	}
}

// TestListsWithBytesTurned: each byte of a text made each other byte; what is a list then is another one, told in one way.
func TestListsWithBytesTurned(t *testing.T) {
	for _, x := range rightLists() {
		text, _ := impl.CrlText(x)
		right, wrong := 0, 0
		for at := range len(text) {
			for bits := 1; bits < 256; bits++ {
				other := turned(text, at, byte(bits))
				if !checkReadList(t, other) {
					wrong++
					continue
				}
				right++
				if back, _ := impl.ReadCrl(other); sameList(back, x) {
					t.Fatalf("%q and %q are read as one list", text, other)
				}
			}
		}
		if right < 1000 || wrong < 1000 {
			t.Errorf("%d right, %d wrong: too few", right, wrong)
		}
	}
}

// TestSignedListsWithBytesTurned: what is read of a signed list with one byte turned, the house didn't sign.
func TestSignedListsWithBytesTurned(t *testing.T) {
	for i, x := range []impl.Crl{someList(), deltaList(), emptyList()} {
		text, _ := impl.CrlText(impl.SignedCrl(x, i))
		for at := range len(text) {
			for _, bits := range []byte{1, 2, 16, 128} {
				back, ok := impl.ReadCrl(turned(text, at, bits))
				if ok && impl.SigOk(impl.PublicAt(i), impl.CrlBody(back), back.Sig) {
					t.Fatalf("byte %d turned by %d: it holds as if it were signed", at, bits)
				}
			}
		}
	}
}

func TestListsWithBytesMoreAndLess(t *testing.T) {
	for _, x := range append(rightLists(), impl.SignedCrl(someList(), 3)) {
		text, _ := impl.CrlText(x)
		for _, other := range append(textsMoreAndLess(text), impl.CrlBody(x), impl.CrlBody(x)+x.Sig) {
			checkNoList(t, other)
		}
	}
	source := rand.New(rand.NewSource(103))
	right := 0
	for range 40000 {
		text, _ := impl.CrlText(drawnList(source))
		if checkReadList(t, drawnDamage(source, text)) {
			right++
		}
	}
	if right < 1000 {
		t.Errorf("%d right: too few", right)
	}
}

func TestItemsThatAreNoList(t *testing.T) {
	pair := func(serial, reason int) impl.Item {
		return itemOf(48, "", numberItem(t, serial), numberItem(t, reason))
	}
	for _, x := range rightLists() {
		whole := listByHand(t, x)
		beside := itemsBeside(whole)
		for at := range len(x.Revs) + 1 {
			for _, rev := range []impl.Item{pair(3, 1), pair(9999, 10), pair(0, 8), pair(10000, 1), pair(4, 0), pair(4, 11), itemOf(48, "", numberItem(t, 4)), itemOf(48, "", numberItems(t, 4, 1, 1)...)} {
				more := cloned(whole)
				more.Kids[0].Kids[5].Kids = slices.Insert(more.Kids[0].Kids[5].Kids, at, rev)
				beside = append(beside, more)
			}
		}
		right := 0
		for _, one := range beside {
			if checkReadList(t, textByLibrary(t, one)) {
				right++
			}
		}
		if right < 20 {
			t.Errorf("%d right: too few", right)
		}
	}
}

func TestNamedItemsThatAreNoList(t *testing.T) {
	const issuer, num, this, next, base, revs = 0, 1, 2, 3, 4, 5
	body := func(x *impl.Item) *impl.Item { return &x.Kids[0] }
	kid := func(x *impl.Item, at int) *impl.Item { return &x.Kids[0].Kids[at] }
	rev := func(x *impl.Item, at int) *impl.Item { return &x.Kids[0].Kids[revs].Kids[at] }
	changes := map[string]func(x *impl.Item){
		"the whole, a kid more":        func(x *impl.Item) { x.Kids = append(x.Kids, itemOf(4, "")) },
		"the whole, two Sigs":          func(x *impl.Item) { x.Kids = append(x.Kids, x.Kids[1]) },
		"the whole, a kid less":        func(x *impl.Item) { x.Kids = x.Kids[:1] },
		"the whole, without a body":    func(x *impl.Item) { x.Kids = x.Kids[1:] },
		"the whole, without kids":      func(x *impl.Item) { x.Kids = nil },
		"the whole, the Sig first":     func(x *impl.Item) { slices.Reverse(x.Kids) },
		"the whole in a list":          func(x *impl.Item) { *x = inLists(1, *x) },
		"the whole, of another tag":    func(x *impl.Item) { *x = itemOf(4, textByLibrary(t, *x)) },
		"the whole, in one list":       func(x *impl.Item) { x.Kids = append(slices.Clone(body(x).Kids), x.Kids[1]) },
		"a body, a kid more":           func(x *impl.Item) { body(x).Kids = append(body(x).Kids, itemOf(48, "")) },
		"a body, a number more":        func(x *impl.Item) { body(x).Kids = slices.Insert(body(x).Kids, revs, itemOf(2, "\x00")) },
		"a body, without Revs":         func(x *impl.Item) { body(x).Kids = body(x).Kids[:revs] },
		"a body, without Base":         func(x *impl.Item) { body(x).Kids = slices.Delete(body(x).Kids, base, base+1) },
		"a body, without Issuer":       func(x *impl.Item) { body(x).Kids = body(x).Kids[1:] },
		"a body, without kids":         func(x *impl.Item) { body(x).Kids = nil },
		"a body, of another tag":       func(x *impl.Item) { *body(x) = itemOf(4, textByLibrary(t, *body(x))[2:]) },
		"a Sig as text":                func(x *impl.Item) { x.Kids[1] = itemOf(12, "fifteen letters") },
		"a Sig, a byte more":           func(x *impl.Item) { x.Kids[1].Text += "\x00" },
		"a Sig, a byte less":           func(x *impl.Item) { x.Kids[1].Text = x.Kids[1].Text[:14] },
		"a Sig of nothing":             func(x *impl.Item) { x.Kids[1].Text = "" },
		"a number where a text stands": func(x *impl.Item) { *kid(x, issuer) = itemOf(2, "a") },
		"bytes where a text stands":    func(x *impl.Item) { kid(x, issuer).Tag = 4 },
		"a text where Num stands":      func(x *impl.Item) { *kid(x, num) = itemOf(12, "5") },
		"a text where This stands":     func(x *impl.Item) { *kid(x, this) = itemOf(12, "5") },
		"bytes where Next stands":      func(x *impl.Item) { *kid(x, next) = itemOf(4, "\x05") },
		"a flag where Base stands":     func(x *impl.Item) { *kid(x, base) = itemOf(1, "\x00") },
		"a list where Num stands":      func(x *impl.Item) { *kid(x, num) = inLists(1, *kid(x, num)) },
		"times in a list of their own": func(x *impl.Item) {
			body(x).Kids = slices.Replace(body(x).Kids, this, base, inLists(1, *kid(x, this), *kid(x, next)))
		},
		"an Issuer of nothing":           func(x *impl.Item) { kid(x, issuer).Text = "" },
		"an Issuer of 21 bytes":          func(x *impl.Item) { kid(x, issuer).Text = strings.Repeat("a", 21) },
		"an Issuer that is no name":      func(x *impl.Item) { kid(x, issuer).Text = "ca..org" },
		"a Num of 0":                     func(x *impl.Item) { *kid(x, num) = numberItem(t, 0) },
		"a Num of Base":                  func(x *impl.Item) { *kid(x, num) = numberItem(t, 5) },
		"a Num of 10000":                 func(x *impl.Item) { *kid(x, num) = numberItem(t, 10000) },
		"a Num beyond MaxNumber":         func(x *impl.Item) { kid(x, num).Text = "\x3b\x9a\xca\x01" },
		"a Num below 0":                  func(x *impl.Item) { kid(x, num).Text = "\xff" },
		"a Num, a byte 0 ahead":          func(x *impl.Item) { kid(x, num).Text = "\x00\x07" },
		"a This of 10000":                func(x *impl.Item) { *kid(x, this) = numberItem(t, 10000) },
		"a Next of 10000":                func(x *impl.Item) { *kid(x, next) = numberItem(t, 10000) },
		"a Base of Num":                  func(x *impl.Item) { *kid(x, base) = numberItem(t, 7) },
		"a Base of 0, and Reason 8":      func(x *impl.Item) { *kid(x, base) = numberItem(t, 0) },
		"Revs as a number":               func(x *impl.Item) { *kid(x, revs) = numberItem(t, 1) },
		"Revs as bytes":                  func(x *impl.Item) { *kid(x, revs) = itemOf(4, textByLibrary(t, *kid(x, revs))[2:]) },
		"Revs in two lists":              func(x *impl.Item) { *kid(x, revs) = inLists(1, *kid(x, revs)) },
		"Revs not in lists":              func(x *impl.Item) { kid(x, revs).Kids = numberItems(t, 1, 8) },
		"Revs that do not ascend":        func(x *impl.Item) { slices.Reverse(kid(x, revs).Kids) },
		"Revs, one twice":                func(x *impl.Item) { kid(x, revs).Kids = times(2, *rev(x, 0)) },
		"Revs, two of one Serial":        func(x *impl.Item) { rev(x, 1).Kids[0] = numberItem(t, 1) },
		"Revs, nine of them":             func(x *impl.Item) { *kid(x, revs) = listBodyByHand(t, impl.Crl{Revs: revsFrom(1, 9, 1)}).Kids[revs] },
		"a Rev of nothing":               func(x *impl.Item) { rev(x, 0).Kids = nil },
		"a Rev of one number":            func(x *impl.Item) { rev(x, 0).Kids = rev(x, 0).Kids[:1] },
		"the last Rev of one number":     func(x *impl.Item) { rev(x, 2).Kids = rev(x, 2).Kids[:1] },
		"a Rev of three numbers":         func(x *impl.Item) { rev(x, 0).Kids = append(rev(x, 0).Kids, itemOf(2, "\x00")) },
		"the last Rev of three numbers":  func(x *impl.Item) { rev(x, 2).Kids = append(rev(x, 2).Kids, itemOf(2, "\x00")) },
		"a Rev of two Revs":              func(x *impl.Item) { rev(x, 0).Kids = append(rev(x, 0).Kids, numberItems(t, 2, 8)...) },
		"a Rev as a number":              func(x *impl.Item) { *rev(x, 1) = numberItem(t, 128) },
		"a Rev as a text":                func(x *impl.Item) { *rev(x, 1) = itemOf(12, "128") },
		"a Rev, a text for Serial":       func(x *impl.Item) { rev(x, 0).Kids[0] = itemOf(12, "1") },
		"a Rev, a text for Reason":       func(x *impl.Item) { rev(x, 0).Kids[1] = itemOf(12, "8") },
		"a Rev, a flag for Reason":       func(x *impl.Item) { rev(x, 0).Kids[1] = itemOf(1, "\xff") },
		"a Rev, a list for Serial":       func(x *impl.Item) { rev(x, 0).Kids[0] = inLists(1, rev(x, 0).Kids[0]) },
		"a Serial of 10000":              func(x *impl.Item) { rev(x, 2).Kids[0] = numberItem(t, 10000) },
		"a Serial below 0":               func(x *impl.Item) { rev(x, 0).Kids[0].Text = "\xff" },
		"a Serial, a byte 0 ahead":       func(x *impl.Item) { rev(x, 0).Kids[0].Text = "\x00\x01" },
		"a Reason of 0":                  func(x *impl.Item) { rev(x, 1).Kids[1] = numberItem(t, 0) },
		"a Reason of 11":                 func(x *impl.Item) { rev(x, 1).Kids[1] = numberItem(t, 11) },
		"a Reason beyond MaxNumber":      func(x *impl.Item) { rev(x, 1).Kids[1].Text = "\x7f\xff\xff\xff\xff" },
		"Issuer and Num, swapped":        func(x *impl.Item) { *kid(x, issuer), *kid(x, num) = *kid(x, num), *kid(x, issuer) },
		"Base and Revs, swapped":         func(x *impl.Item) { *kid(x, base), *kid(x, revs) = *kid(x, revs), *kid(x, base) },
		"Num and Base, swapped":          func(x *impl.Item) { *kid(x, num), *kid(x, base) = *kid(x, base), *kid(x, num) },
		"Serial and Reason, swapped":     func(x *impl.Item) { slices.Reverse(rev(x, 1).Kids) },
		"the body of a letter":           func(x *impl.Item) { *body(x) = bodyByHand(t, someLetter()) },
		"the Revs ahead of all the rest": func(x *impl.Item) { slices.Reverse(body(x).Kids) },
	}
	for name, change := range changes {
		x := listByHand(t, deltaList())
		change(&x)
		text := textByLibrary(t, x)
		if got, ok := impl.ReadCrl(text); ok || !sameList(got, impl.Crl{}) {
			t.Errorf("%s: ReadCrl = %#v %v, want a whole refusal", name, got, ok)
		}
		checkNoList(t, text)
	}
	// The edges that are met, in the same way.
	for name, change := range map[string]func(x *impl.Item){
		"nothing":             func(x *impl.Item) {},
		"a Num of 9999":       func(x *impl.Item) { *kid(x, num) = numberItem(t, 9999) },
		"a Num above Base":    func(x *impl.Item) { *kid(x, num) = numberItem(t, 6) },
		"a Base of Num - 1":   func(x *impl.Item) { *kid(x, base) = numberItem(t, 6) },
		"a Base of 1":         func(x *impl.Item) { *kid(x, base) = numberItem(t, 1) },
		"a This of 9999":      func(x *impl.Item) { *kid(x, this) = numberItem(t, 9999) },
		"a Next of 0":         func(x *impl.Item) { *kid(x, next) = numberItem(t, 0) },
		"no Revs":             func(x *impl.Item) { kid(x, revs).Kids = nil },
		"no Revs and Base 0":  func(x *impl.Item) { kid(x, revs).Kids, *kid(x, base) = nil, numberItem(t, 0) },
		"one Rev":             func(x *impl.Item) { kid(x, revs).Kids = kid(x, revs).Kids[:1] },
		"eight Revs":          func(x *impl.Item) { *kid(x, revs) = listBodyByHand(t, impl.Crl{Revs: revsFrom(1, 8, 8)}).Kids[revs] },
		"a Serial of 0":       func(x *impl.Item) { rev(x, 0).Kids[0] = numberItem(t, 0) },
		"a Serial of 9999":    func(x *impl.Item) { rev(x, 2).Kids[0] = numberItem(t, 9999) },
		"a Reason of 10":      func(x *impl.Item) { rev(x, 1).Kids[1] = numberItem(t, 10) },
		"an Issuer of 20":     func(x *impl.Item) { kid(x, issuer).Text = strings.Repeat("a", 20) },
		"This and Next alike": func(x *impl.Item) { *kid(x, this) = *kid(x, next) },
	} {
		x := listByHand(t, deltaList())
		change(&x)
		if !checkReadList(t, textByLibrary(t, x)) {
			t.Errorf("%s: no list", name)
		}
	}
}

func TestListed(t *testing.T) {
	some := someList()
	for serial, reason := range map[int]int{0: 1, 5: 10, 300: 7, 9999: 9, 1: 0, 4: 0, 6: 0, 299: 0, 301: 0, 9998: 0, 10000: 0, -1: 0, 44: 0, 300 + 1<<32: 0, 5 - 1<<63: 0} {
		if got := impl.Listed(some, serial); got != reason {
			t.Errorf("Listed(.., %d) = %d, want %d", serial, got, reason)
		}
		checkListed(t, some, serial)
	}
	if got := impl.Listed(deltaList(), 255); got != 8 {
		t.Errorf("what is not called back any more is Listed as %d, want 8", got)
	}
	for _, x := range rightLists() {
		text, _ := impl.CrlText(x)
		back := readListBack(t, text)
		for serial := -2; serial <= 10001; serial++ {
			if got, want := impl.Listed(back, serial), listedByHand(x, serial); got != want {
				t.Fatalf("Listed(%#v, %d) = %d, want %d", back, serial, got, want)
			}
		}
	}
}

// TestListedOfWrongLists: nobody asks whether the list is right, nor how its Revs stand; of two of one Serial the first one counts.
func TestListedOfWrongLists(t *testing.T) {
	for _, x := range []impl.Crl{
		{}, {Revs: []impl.Rev{{Serial: 3, Reason: 2}}}, {Revs: []impl.Rev{{Serial: 9, Reason: 1}, {Serial: 3, Reason: 2}, {Serial: 5, Reason: 3}}}, {Revs: []impl.Rev{{Serial: -1, Reason: 4}, {Serial: 1 << 40, Reason: 5}, {Serial: math.MinInt, Reason: 6}}},
		{Revs: []impl.Rev{{Serial: 3, Reason: 11}, {Serial: 4, Reason: -7}, {Serial: 5, Reason: math.MaxInt}}}, {Revs: []impl.Rev{{Serial: 3, Reason: 5}, {Serial: 3, Reason: 6}}}, {Revs: revsFrom(0, 100, 3)}, {Revs: []impl.Rev{{}}}, {Revs: []impl.Rev{{Serial: 3, Reason: 8}}},
	} {
		for _, serial := range append(edgeNumbers(), 3, 4, 5, 50, 1<<40) {
			checkListed(t, x, serial)
		}
	}
}

// checkOwnList: neither Revs, with the room behind them, nor texts of the answer lie in another one's memory.
func checkOwnList(t *testing.T, name string, answer impl.Crl, handed ...impl.Crl) {
	t.Helper()
	for _, x := range handed {
		if cap(answer.Revs) > 0 && cap(x.Revs) > 0 && memoryOf(answer.Revs).meets(memoryOf(x.Revs)) {
			t.Fatalf("%s: Revs share memory with an argument, or another answer", name)
		}
		for _, one := range []string{answer.Issuer, answer.Sig} {
			if shares(one, x.Issuer) || shares(one, x.Sig) {
				t.Fatalf("%s: a text shares memory with an argument, or another answer", name)
			}
		}
	}
}

func spoilRevs(list []impl.Rev) {
	for i := range list[:cap(list)] {
		list[:cap(list)][i] = impl.Rev{Serial: -5, Reason: -5}
	}
}

func TestListsAreNewMemory(t *testing.T) {
	source := rand.New(rand.NewSource(104))
	lists := append(rightLists(), changedList(someList(), func(x *impl.Crl) { slices.Reverse(x.Revs) }), changedList(someList(), func(x *impl.Crl) { x.Revs = revsFrom(0, 50, 1) }))
	for range 200 {
		lists = append(lists, drawnList(source))
	}
	for _, x := range lists {
		want := changedList(x, func(*impl.Crl) {})
		for _, i := range []int{2, -1} {
			first, second := impl.SignedCrl(x, i), impl.SignedCrl(x, i)
			kept := changedList(second, func(*impl.Crl) {})
			checkOwnList(t, "SignedCrl", first, x, second)
			spoilRevs(first.Revs)
			if !sameList(x, want) || !sameList(second, kept) || !sameList(impl.SignedCrl(x, i), kept) {
				t.Fatalf("SignedCrl(%#v, %d) hands out what it keeps, or its argument", x, i)
			}
		}
		text, ok := impl.CrlText(x)
		body := impl.CrlBody(x)
		for _, other := range []string{x.Issuer, x.Sig} {
			if shares(text, other) || shares(body, other) {
				t.Fatal("CrlText or CrlBody hands out a piece of its argument")
			}
		}
		if !ok {
			continue
		}
		first, _ := impl.ReadCrl(text)
		second, _ := impl.ReadCrl(text)
		checkOwnList(t, "ReadCrl", first, second, impl.Crl{Sig: text})
		spoilRevs(first.Revs)
		if third, _ := impl.ReadCrl(text); !sameList(second, want) || !sameList(third, want) {
			t.Fatalf("ReadCrl(%q) hands out one memory twice", text)
		}
	}
}
