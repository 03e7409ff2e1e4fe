package tests

import (
	"encoding/asn1"
	"math"
	"math/rand"
	"slices"
	"strings"
	"testing"

	"loop.example/g00394/impl"
)

func TestAskConstants(t *testing.T) {
	if impl.WantPath != 1 || impl.WantLists != 2 {
		t.Errorf("WantPath %d, WantLists %d", impl.WantPath, impl.WantLists)
	}
}

// letterText: the bytes of a right letter.
func letterText(t *testing.T, c impl.Cert) string {
	t.Helper()
	text, ok := impl.CertText(c)
	if !ok || len(text) > 400 {
		t.Fatalf("%#v: the case is none, its text has %d bytes", c, len(text))
	}
	return text
}

// someAsk: a right one, with something in each of its fields.
func someAsk(t *testing.T) impl.Ask {
	t.Helper()
	return impl.Ask{Targets: []string{letterText(t, someLetter())}, Plan: 1, Want: 3, Nonce: 300, Time: 20, Cached: true}
}

// twoAsk: a right one, of two letters, for now.
func twoAsk(t *testing.T) impl.Ask {
	t.Helper()
	return impl.Ask{Targets: []string{letterText(t, bareLetter()), letterText(t, someLetter())}, Plan: 0, Want: 1, Nonce: 128, Time: 0}
}

// bareAsk: a right one, of as little as there may be.
func bareAsk() impl.Ask {
	return impl.Ask{Targets: []string{""}}
}

// strayAsk: a right one, whose Targets are no letters.
func strayAsk() impl.Ask {
	return impl.Ask{Targets: []string{"no letter", "\x00\xff", "\x30\x00"}, Plan: 98, Want: 2, Nonce: 65536, Time: 1, Cached: true}
}

// fullAsk: a right one, of as much as there may be.
func fullAsk() impl.Ask {
	return impl.Ask{Targets: []string{textOfSize(400), strings.Repeat("\xff", 400), strings.Repeat("\x00", 400)}, Plan: 99, Want: 3, Nonce: 1000000000, Time: 9999, Cached: true}
}

func rightAsks(t *testing.T) []impl.Ask {
	t.Helper()
	return []impl.Ask{someAsk(t), twoAsk(t), bareAsk(), strayAsk(), fullAsk()}
}

// changedAsk: the question with one thing done to it, in memory of its own.
func changedAsk(a impl.Ask, change func(a *impl.Ask)) impl.Ask {
	a.Targets = slices.Clone(a.Targets)
	change(&a)
	return a
}

func sameAsk(a, b impl.Ask) bool {
	return slices.Equal(a.Targets, b.Targets) && a.Plan == b.Plan && a.Want == b.Want && a.Nonce == b.Nonce && a.Time == b.Time && a.Cached == b.Cached
}

// askRight: AskOk by hand.
func askRight(a impl.Ask) bool {
	for _, one := range []struct{ n, most int }{{a.Plan, 99}, {a.Want, 3}, {a.Nonce, 1000000000}, {a.Time, 9999}} {
		if one.n < 0 || one.n > one.most {
			return false
		}
	}
	tooLong := func(target string) bool { return len(target) > 400 }
	return len(a.Targets) >= 1 && len(a.Targets) <= 3 && !slices.ContainsFunc(a.Targets, tooLong)
}

func askByHand(t *testing.T, a impl.Ask) impl.Item {
	t.Helper()
	targets := itemOf(48, "")
	for _, target := range a.Targets {
		targets.Kids = append(targets.Kids, itemOf(4, target))
	}
	cached := "\x00"
	if a.Cached {
		cached = "\xff"
	}
	return itemOf(48, "", targets, numberItem(t, a.Plan), numberItem(t, a.Want), numberItem(t, a.Nonce), numberItem(t, a.Time), itemOf(1, cached))
}

// guardedAsk: a with Targets that have room behind them, and whether all of that is still as it was.
func guardedAsk(a impl.Ask) (impl.Ask, func() bool) {
	handed := a
	targets, untouched := guardedNames(a.Targets)
	handed.Targets = targets
	return handed, untouched
}

type askParts struct {
	Targets                 [][]byte
	Plan, Want, Nonce, Time int64
	Cached                  bool
}

// askByLibrary: the right question that the library's own reader of this form finds in the text. As that overlooks what stands behind the last part of a list, the question is written again, and must make the same bytes.
func askByLibrary(t *testing.T, text string) (impl.Ask, bool) {
	t.Helper()
	var parts askParts
	rest, err := asn1.Unmarshal([]byte(text), &parts)
	if err != nil || len(rest) > 0 {
		return impl.Ask{}, false
	}
	a := impl.Ask{Plan: int(parts.Plan), Want: int(parts.Want), Nonce: int(parts.Nonce), Time: int(parts.Time), Cached: parts.Cached}
	for _, target := range parts.Targets {
		a.Targets = append(a.Targets, string(target))
	}
	if !askRight(a) || textByLibrary(t, askByHand(t, a)) != text {
		return impl.Ask{}, false
	}
	return a, true
}

// checkReadAsk: what ReadAsk answers of a text is held against the library's reader, whole; what is read is written to the same bytes. It tells whether there is a question.
func checkReadAsk(t *testing.T, text string) bool {
	t.Helper()
	want, ok := askByLibrary(t, text)
	before := strings.Clone(text)
	got, right := impl.ReadAsk(text)
	if right != ok || !sameAsk(got, want) || text != before {
		t.Fatalf("ReadAsk(%.400q) = %#v %v, want %#v %v", text, got, right, want, ok)
	}
	if !ok {
		return false
	}
	if again, written := impl.AskText(got); !written || again != text || !impl.AskOk(got) {
		t.Fatalf("ReadAsk(%q) is true; AskText of it %q %v", text, again, written)
	}
	return true
}

func checkNoAsk(t *testing.T, text string) {
	t.Helper()
	if checkReadAsk(t, text) {
		t.Fatalf("%.400q: the case is none, there is a question in it", text)
	}
}

func readAskBack(t *testing.T, text string) impl.Ask {
	t.Helper()
	if !checkReadAsk(t, text) {
		t.Fatalf("ReadAsk(%.400q) is false", text)
	}
	back, _ := impl.ReadAsk(text)
	return back
}

// checkAsk: all that is asked of one question, whole; promise 14, when it is right.
func checkAsk(t *testing.T, a impl.Ask, want bool) {
	t.Helper()
	if byHand := askRight(a); byHand != want {
		t.Fatalf("%#v: the case is none, by hand it is %v", a, byHand)
	}
	handed, untouched := guardedAsk(a)
	if got := impl.AskOk(handed); got != want {
		t.Fatalf("AskOk(%#v) = %v, want %v", a, got, want)
	}
	whole := textByLibrary(t, askByHand(t, a))
	text, ok := impl.AskText(handed)
	if wantText := map[bool]string{true: whole}[want]; ok != want || text != wantText {
		t.Fatalf("AskText(%#v) = %.400q %v, want %.400q %v", a, text, ok, wantText, want)
	}
	if !untouched() {
		t.Fatalf("%#v: what was handed in is written to", a)
	}
	if !want {
		// Its bytes may be those of a right one: numbers out of range are told as 0.
		if checkReadAsk(t, whole) && sameAsk(a, readAskBack(t, whole)) {
			t.Fatalf("%#v: it is not right, and comes back", a)
		}
		return
	}
	if back := readAskBack(t, text); !sameAsk(back, a) {
		t.Fatalf("%#v comes back as %#v", a, back)
	}
}

func TestAsksInTheirBytes(t *testing.T) {
	long := strings.Repeat("t", 400)
	cases := []struct {
		a    impl.Ask
		text string
	}{
		{
			impl.Ask{Targets: []string{""}},
			"\x30\x13" + "\x30\x02\x04\x00" + "\x02\x01\x00" + "\x02\x01\x00" + "\x02\x01\x00" + "\x02\x01\x00" + "\x01\x01\x00",
		},
		{
			impl.Ask{Targets: []string{"a\x00", "b"}, Plan: 1, Want: 2, Nonce: 3, Time: 4, Cached: true},
			"\x30\x18" + "\x30\x07\x04\x02a\x00\x04\x01b" + "\x02\x01\x01" + "\x02\x01\x02" + "\x02\x01\x03" + "\x02\x01\x04" + "\x01\x01\xff",
		},
		{
			impl.Ask{Targets: []string{"x", "", "x"}, Plan: 99, Want: 3, Nonce: 1000000000, Time: 9999},
			"\x30\x1d" + "\x30\x08\x04\x01x\x04\x00\x04\x01x" + "\x02\x01\x63" + "\x02\x01\x03" + "\x02\x04\x3b\x9a\xca\x00" + "\x02\x02\x27\x0f" + "\x01\x01\x00",
		},
		{
			impl.Ask{Targets: []string{long}, Want: 1, Nonce: 128, Time: 200, Cached: true},
			"\x30\x82\x01\xa9" + "\x30\x82\x01\x94\x04\x82\x01\x90" + long + "\x02\x01\x00" + "\x02\x01\x01" + "\x02\x02\x00\x80" + "\x02\x02\x00\xc8" + "\x01\x01\xff",
		},
	}
	for _, c := range cases {
		if got, ok := impl.AskText(c.a); !ok || got != c.text {
			t.Errorf("AskText = %q %v, want %q", got, ok, c.text)
		}
		if got, ok := impl.ReadAsk(c.text); !ok || !sameAsk(got, c.a) {
			t.Errorf("ReadAsk(%q) = %#v %v, want %#v", c.text, got, ok, c.a)
		}
		checkAsk(t, c.a, true)
	}
}

// TestAsksComeBack: of one, two and three Targets, with and without Cached, each Want, for now and for another time.
func TestAsksComeBack(t *testing.T) {
	letters := []string{letterText(t, someLetter()), letterText(t, bareLetter()), letterText(t, fullLetter())}
	for count := 1; count <= 3; count++ {
		for _, cached := range []bool{false, true} {
			for want := range 4 {
				for _, time := range []int{0, 1, 50, 9999} {
					for _, nonce := range []int{0, 7, 1000000000} {
						checkAsk(t, impl.Ask{Targets: letters[:count], Plan: want * 33, Want: want, Nonce: nonce, Time: time, Cached: cached}, true)
					}
				}
			}
		}
	}
	for _, a := range rightAsks(t) {
		checkAsk(t, a, true)
		// Nobody asks whether what is Cached has a Nonce, nor whether anything is wanted at all.
		checkAsk(t, changedAsk(a, func(a *impl.Ask) { a.Cached, a.Nonce = true, 5 }), true)
		checkAsk(t, changedAsk(a, func(a *impl.Ask) { a.Cached, a.Nonce = false, 0 }), true)
		checkAsk(t, changedAsk(a, func(a *impl.Ask) { a.Want, a.Plan = 0, 0 }), true)
	}
}

// TestAsksThatAreNothing: the zero value, and right questions with fields of it.
func TestAsksThatAreNothing(t *testing.T) {
	checkAsk(t, impl.Ask{}, false)
	for _, a := range rightAsks(t) {
		checkAsk(t, changedAsk(a, func(a *impl.Ask) { a.Plan, a.Want, a.Nonce, a.Time, a.Cached = 0, 0, 0, 0, false }), true)
		checkAsk(t, changedAsk(a, func(a *impl.Ask) { a.Targets = nil }), false)
		checkAsk(t, changedAsk(a, func(a *impl.Ask) { a.Targets = []string{} }), false)
		checkAsk(t, changedAsk(a, func(a *impl.Ask) { a.Targets = a.Targets[:0] }), false)
		checkAsk(t, changedAsk(a, func(a *impl.Ask) { a.Targets = []string{""} }), true)
	}
}

// TestHowManyTargets: 1 to 3, of any kind.
func TestHowManyTargets(t *testing.T) {
	for _, a := range rightAsks(t) {
		for _, target := range []string{"", "a", letterText(t, someLetter()), textOfSize(400)} {
			for _, count := range []int{0, 1, 2, 3, 4, 5, 6, 9, 10, 39, 40, 41, 100, 1000} {
				checkAsk(t, changedAsk(a, func(a *impl.Ask) { a.Targets = slices.Repeat([]string{target}, count) }), count >= 1 && count <= 3)
			}
		}
	}
}

// TestTargetSizes: 400 bytes at most, each of them for itself, at each place.
func TestTargetSizes(t *testing.T) {
	sizes := []int{405, 500, 512, 800, 1200, 1201, 3900, 3999, 4000, 4001, 65535, 65536, 1 << 20}
	for size := range 404 {
		sizes = append(sizes, size)
	}
	for _, size := range sizes {
		for count := 1; count <= 3; count++ {
			for at := range count {
				for _, other := range []string{"", "other", textOfSize(400)} {
					targets := slices.Repeat([]string{other}, count)
					targets[at] = textOfSize(size)
					checkAsk(t, impl.Ask{Targets: targets, Nonce: size % 3}, size <= 400)
				}
			}
		}
	}
	// Bytes are counted, not runes.
	for _, one := range []string{"\xc3\xa4", "\xe2\x82\xac", "\xf0\x9f\x99\x82", "\xff\xfe"} {
		for _, count := range []int{99, 100, 101, 133, 134, 200, 201, 400} {
			checkAsk(t, impl.Ask{Targets: []string{strings.Repeat(one, count)}}, len(one)*count <= 400)
		}
	}
}

// askNumbers: the fields that are numbers, and what is the most that each may be.
func askNumbers() []struct {
	most int
	of   func(a *impl.Ask) *int
} {
	return []struct {
		most int
		of   func(a *impl.Ask) *int
	}{
		{99, func(a *impl.Ask) *int { return &a.Plan }},
		{3, func(a *impl.Ask) *int { return &a.Want }},
		{1000000000, func(a *impl.Ask) *int { return &a.Nonce }},
		{9999, func(a *impl.Ask) *int { return &a.Time }},
	}
}

func TestAskNumbers(t *testing.T) {
	for _, a := range rightAsks(t) {
		for _, field := range askNumbers() {
			for _, n := range append(edgeNumbers(), 3, 4, 5, -field.most, field.most-1, field.most, field.most+1, field.most+1<<32, 1<<23-1, 1<<23, 1<<24, 1<<29) {
				checkAsk(t, changedAsk(a, func(a *impl.Ask) { *field.of(a) = n }), n >= 0 && n <= field.most)
			}
		}
	}
	for n := -20; n <= 10020; n++ {
		checkAsk(t, changedAsk(bareAsk(), func(a *impl.Ask) { a.Time, a.Nonce = n, max(n, 0) }), n >= 0 && n <= 9999)
		checkAsk(t, changedAsk(bareAsk(), func(a *impl.Ask) { a.Nonce = n }), n >= 0)
	}
	for n := -130; n <= 300; n++ {
		checkAsk(t, changedAsk(strayAsk(), func(a *impl.Ask) { a.Plan = n }), n >= 0 && n <= 99)
		checkAsk(t, changedAsk(strayAsk(), func(a *impl.Ask) { a.Want = n }), n >= 0 && n <= 3)
	}
}

// wrongChanges: each makes a right question wrong.
func wrongChanges() []func(a *impl.Ask) {
	list := []func(a *impl.Ask){
		func(a *impl.Ask) { a.Targets = nil },
		func(a *impl.Ask) { a.Targets = make([]string, 4) },
		func(a *impl.Ask) { a.Targets[0] = textOfSize(401) },
		func(a *impl.Ask) { a.Targets[len(a.Targets)-1] = textOfSize(401) },
	}
	for _, field := range askNumbers() {
		list = append(list, func(a *impl.Ask) { *field.of(a) = -1 }, func(a *impl.Ask) { *field.of(a) = field.most + 1 }, func(a *impl.Ask) { *field.of(a) = math.MinInt }, func(a *impl.Ask) { *field.of(a) = math.MaxInt })
	}
	return list
}

// TestAsksWithTwoFaults: one fault doesn't make another one good.
func TestAsksWithTwoFaults(t *testing.T) {
	for _, a := range rightAsks(t) {
		for i, first := range wrongChanges() {
			checkAsk(t, changedAsk(a, first), false)
			for _, second := range wrongChanges()[i+1:] {
				if one := changedAsk(a, first); len(one.Targets) > 0 {
					checkAsk(t, changedAsk(one, second), false)
				}
			}
		}
	}
}

// noLetters: texts that a question may have as Targets, though ReadCert refuses them.
func noLetters(t *testing.T) []string {
	t.Helper()
	letter := letterText(t, someLetter())
	list := []string{"", "a", "no letter", "\n", "\x00", letter[1:], letter[:len(letter)-1], letter + "\x00", letter + letter, impl.BodyText(someLetter()), "\x30\x82\x00" + letter[1:], "\x30\x00", "\x30\x80", textOfSize(400)}
	for b := range 256 {
		list = append(list, string([]byte{byte(b)}), strings.Repeat(string([]byte{byte(b)}), 400))
	}
	for _, x := range rightLists() {
		text, _ := impl.CrlText(x)
		list = append(list, text)
	}
	for _, a := range []impl.Ask{someAsk(t), bareAsk(), strayAsk()} {
		list = append(list, textByLibrary(t, askByHand(t, a)))
	}
	for _, c := range []impl.Cert{
		{}, changed(someLetter(), func(c *impl.Cert) { c.Serial = 10000 }), changed(someLetter(), func(c *impl.Cert) { c.Issuer = "" }), changed(someLetter(), func(c *impl.Cert) { c.Key = "" }), changed(someLetter(), func(c *impl.Cert) { c.Usage = 8 }),
		changed(someLetter(), func(c *impl.Cert) { c.Policies = []int{2, 1} }), changed(someLetter(), func(c *impl.Cert) { c.Sig += "\x00" }),
	} {
		list = append(list, textByLibrary(t, letterByHand(t, c)))
	}
	for _, x := range strangers() {
		list = append(list, textByLibrary(t, x))
	}
	return list
}

// TestTargetsThatAreNoLetters: a question may ask for them, and they come back as they are.
func TestTargetsThatAreNoLetters(t *testing.T) {
	letter := letterText(t, someLetter())
	for _, text := range noLetters(t) {
		if len(text) > 400 {
			t.Fatalf("%.400q: the case is none, it has %d bytes", text, len(text))
		}
		if _, ok := impl.ReadCert(text); ok {
			t.Fatalf("%q: the case is none, there is a letter in it", text)
		}
		for _, targets := range [][]string{{text}, {text, letter}, {letter, text}, {letter, text, letter}, {text, text, text}} {
			checkAsk(t, impl.Ask{Targets: targets, Plan: 1, Want: 3, Nonce: 9, Cached: true}, true)
		}
	}
	// Whether a letter holds is no matter, either.
	for _, c := range []impl.Cert{bareLetter(), fullLetter(), impl.Signed(someLetter(), 2), changed(someLetter(), func(c *impl.Cert) { c.From, c.To = 90, 10 })} {
		checkAsk(t, impl.Ask{Targets: []string{letterText(t, c)}}, true)
	}
}

// TestTargetsAlike: a Target may come again, and each stays where it stands.
func TestTargetsAlike(t *testing.T) {
	one, other := letterText(t, someLetter()), letterText(t, bareLetter())
	texts := map[string]string{}
	allLists([]string{"", "a", one, other}, 3, func(targets []string) {
		a := impl.Ask{Targets: targets, Nonce: 4}
		checkAsk(t, a, len(targets) > 0)
		text, ok := impl.AskText(a)
		told := strings.Join(targets, "|")
		if before, again := texts[text]; ok && again {
			t.Fatalf("Targets %q and %q have one text", before, told)
		}
		texts[text] = told
	})
	if len(texts) != 1+4+16+64 {
		t.Errorf("%d texts: the case is none", len(texts))
	}
}

// TestAsksThatDiffer: no two right questions have one text.
func TestAsksThatDiffer(t *testing.T) {
	list := rightAsks(t)
	for _, change := range []func(a *impl.Ask){
		func(a *impl.Ask) { a.Plan++ }, func(a *impl.Ask) { a.Want-- }, func(a *impl.Ask) { a.Nonce++ }, func(a *impl.Ask) { a.Time++ }, func(a *impl.Ask) { a.Cached = false }, func(a *impl.Ask) { a.Time = 0 }, func(a *impl.Ask) { a.Nonce = 0 },
		func(a *impl.Ask) { a.Plan, a.Want = 3, 1 }, func(a *impl.Ask) { a.Nonce, a.Time = a.Time, a.Nonce }, func(a *impl.Ask) { a.Plan, a.Time = a.Time, a.Plan }, func(a *impl.Ask) { a.Targets = []string{""} }, func(a *impl.Ask) { a.Targets = []string{"", ""} },
		func(a *impl.Ask) { a.Targets = []string{"ab"} }, func(a *impl.Ask) { a.Targets = []string{"a", "b"} }, func(a *impl.Ask) { a.Targets = []string{"b", "a"} }, func(a *impl.Ask) { a.Targets = []string{"ab", ""} }, func(a *impl.Ask) { a.Targets = []string{"", "ab"} }, func(a *impl.Ask) { a.Targets = []string{"a\x04\x01b"} },
		func(a *impl.Ask) { a.Targets = append(a.Targets, a.Targets[0]) },
	} {
		list = append(list, changedAsk(someAsk(t), change))
	}
	for i, a := range list {
		checkAsk(t, a, true)
		for j, b := range list[:i] {
			one, _ := impl.AskText(a)
			other, _ := impl.AskText(b)
			if one == other {
				t.Errorf("questions %d and %d have one text", i, j)
			}
		}
	}
}

// drawnAsk: a right one.
func drawnAsk(source *rand.Rand) impl.Ask {
	number := func(most int) int { return drawnNumber(source, most) }
	a := impl.Ask{Plan: number(99), Want: source.Intn(4), Nonce: number(1000000000), Time: number(9999), Cached: source.Intn(2) == 0}
	for range 1 + source.Intn(3) {
		target := make([]byte, []int{0, 1, 100, 126, 127, 128, 129, 255, 256, 399, 400, source.Intn(401)}[source.Intn(12)])
		source.Read(target)
		if text, ok := impl.CertText(drawnLetter(source)); ok && source.Intn(2) == 0 {
			target = []byte(text)
		}
		a.Targets = append(a.Targets, string(target))
	}
	return a
}

func TestDrawnAsksComeBack(t *testing.T) {
	source := rand.New(rand.NewSource(14))
	letters, others := 0, 0
	for range 4000 {
		a := drawnAsk(source)
		checkAsk(t, a, true)
		for _, target := range a.Targets {
			if _, ok := impl.ReadCert(target); ok {
				letters++
			} else {
				others++
			}
		}
	}
	if letters < 1000 || others < 1000 {
		t.Errorf("%d letters, %d others: too few", letters, others)
	}
}

func TestNoBytesAreNoAsk(t *testing.T) {
	for _, text := range strayTexts(t, rand.New(rand.NewSource(141))) {
		checkNoAsk(t, text)
	}
}

// TestAsksAreNoLetters: what one reader takes the others refuse.
func TestAsksAreNoLetters(t *testing.T) {
	for _, c := range []impl.Cert{someLetter(), bareLetter(), fullLetter()} {
		checkNoAsk(t, letterText(t, c))
		checkNoAsk(t, impl.BodyText(c))
	}
	for _, x := range rightLists() {
		text, _ := impl.CrlText(x)
		checkNoAsk(t, text)
		checkNoAsk(t, impl.CrlBody(x))
	}
	for _, a := range rightAsks(t) {
		text, _ := impl.AskText(a)
		checkNoLetter(t, text)
		checkNoList(t, text)
	}
}

// TestAsksWithBytesTurned: each byte of a text made each other byte; what is a question then is another one, told in one way.
func TestAsksWithBytesTurned(t *testing.T) {
	for _, a := range []impl.Ask{someAsk(t), twoAsk(t), bareAsk(), strayAsk()} {
		text, _ := impl.AskText(a)
		right, wrong := 0, 0
		for at := range len(text) {
			for bits := 1; bits < 256; bits++ {
				other := turned(text, at, byte(bits))
				if !checkReadAsk(t, other) {
					wrong++
					continue
				}
				right++
				if back, _ := impl.ReadAsk(other); sameAsk(back, a) {
					t.Fatalf("%q and %q are read as one question", text, other)
				}
			}
		}
		if right < 300 || wrong < 1000 {
			t.Errorf("%d right, %d wrong: too few", right, wrong)
		}
	}
	text, _ := impl.AskText(fullAsk())
	for at := range len(text) {
		for _, bits := range []byte{1, 2, 16, 128, 255} {
			checkReadAsk(t, turned(text, at, bits))
		}
	}
}

func TestAsksWithBytesMoreAndLess(t *testing.T) {
	for _, a := range []impl.Ask{someAsk(t), twoAsk(t), bareAsk(), strayAsk()} {
		text, _ := impl.AskText(a)
		for _, other := range textsMoreAndLess(text) {
			checkNoAsk(t, other)
		}
	}
	full, _ := impl.AskText(fullAsk())
	for _, other := range []string{full[1:], full[:len(full)-1], full + "\x00", full + full, full + strings.Repeat("\x00", 4000-len(full)), full + strings.Repeat("\x00", 4001-len(full))} {
		checkNoAsk(t, other)
	}
	source := rand.New(rand.NewSource(142))
	right := 0
	for range 20000 {
		text, _ := impl.AskText(drawnAsk(source))
		if checkReadAsk(t, drawnDamage(source, text)) {
			right++
		}
	}
	if right < 1000 {
		t.Errorf("%d right: too few", right)
	}
}

func TestItemsThatAreNoAsk(t *testing.T) {
	for _, a := range rightAsks(t) {
		right := 0
		for _, x := range itemsBeside(askByHand(t, a)) {
			if checkReadAsk(t, textByLibrary(t, x)) {
				right++
			}
		}
		if right < 20 {
			t.Errorf("%d right: too few", right)
		}
	}
}

// withLength: the bytes of x, with the length of one of its items in another form.
func withLength(x, odd *impl.Item, form func(size int) string) string {
	body := x.Text
	for i := range x.Kids {
		body += withLength(&x.Kids[i], odd, form)
	}
	length := lengthForms(len(body))[0]
	if x == odd {
		length = form(len(body))
	}
	return string([]byte{byte(x.Tag)}) + length + body
}

// TestAskLengthsInOneFormAlone: no length of a question, nor of a part of it, may be written longer.
func TestAskLengthsInOneFormAlone(t *testing.T) {
	for _, a := range rightAsks(t) {
		whole := askByHand(t, a)
		for _, odd := range allOf(&whole) {
			for form := range 12 {
				text := withLength(&whole, odd, func(size int) string {
					forms := lengthForms(size)
					return forms[min(form, len(forms)-1)]
				})
				if right := checkReadAsk(t, text); right != (form == 0) {
					t.Fatalf("%.400q: form %d, it is %v", text, form, right)
				}
			}
		}
	}
}

// TestAskNumbersInOneFormAlone: no number of a question may be written longer, below 0, or above MaxNumber.
func TestAskNumbersInOneFormAlone(t *testing.T) {
	for _, a := range rightAsks(t) {
		for at := 1; at <= 4; at++ {
			whole := askByHand(t, a)
			own := whole.Kids[at].Text
			for _, text := range []string{
				"", "\x00" + own, "\x00\x00" + own, "\x00\x00\x00\x00" + own, "\xff" + own, own + "\x00\x00\x00\x00\x00", "\x00\x00", "\x00\x01", "\x00\x7f", "\x00\x00\x80", "\x80", "\xff", "\xff\xff", "\xff\x7f",
				"\x3b\x9a\xca\x01", "\x7f\xff\xff\xff", "\x00\x80\x00\x00\x00", "\x01\x00\x00\x00\x00", "\x7f\xff\xff\xff\xff", "\x00\xff\xff\xff\xff\xff", "\x01\x00\x00\x00\x00\x00\x00\x00", "\x01\x00\x00\x00\x00\x00\x00\x00\x00", own + strings.Repeat("\x00", 200),
			} {
				whole.Kids[at].Text = text
				checkNoAsk(t, textByLibrary(t, whole))
			}
		}
	}
}

// TestAskFlags: of all bytes two are a flag.
func TestAskFlags(t *testing.T) {
	for _, a := range rightAsks(t) {
		for b := range 256 {
			whole := askByHand(t, a)
			whole.Kids[5].Text = string([]byte{byte(b)})
			text := textByLibrary(t, whole)
			if b != 0 && b != 255 {
				checkNoAsk(t, text)
			} else if back := readAskBack(t, text); back.Cached != (b == 255) {
				t.Errorf("the byte %d is read as Cached %v", b, back.Cached)
			}
		}
		for _, flag := range []string{"", "\x00\x00", "\xff\xff", "\x00\xff", "\xff\x00"} {
			whole := askByHand(t, a)
			whole.Kids[5].Text = flag
			checkNoAsk(t, textByLibrary(t, whole))
		}
	}
}

func TestNamedItemsThatAreNoAsk(t *testing.T) {
	const targets, plan, want, nonce, time, cached = 0, 1, 2, 3, 4, 5
	kid := func(x *impl.Item, at int) *impl.Item { return &x.Kids[at] }
	target := func(x *impl.Item, at int) *impl.Item { return &x.Kids[targets].Kids[at] }
	swap := func(x *impl.Item, one, other int) { x.Kids[one], x.Kids[other] = x.Kids[other], x.Kids[one] }
	changes := map[string]func(x *impl.Item){
		"a part more":                    func(x *impl.Item) { x.Kids = append(x.Kids, itemOf(4, "")) },
		"a number more":                  func(x *impl.Item) { x.Kids = slices.Insert(x.Kids, cached, itemOf(2, "\x00")) },
		"a flag more":                    func(x *impl.Item) { x.Kids = append(x.Kids, itemOf(1, "\x00")) },
		"an empty list more":             func(x *impl.Item) { x.Kids = append(x.Kids, itemOf(48, "")) },
		"a list of Targets more":         func(x *impl.Item) { x.Kids = slices.Insert(x.Kids, 0, cloned(x.Kids[targets])) },
		"a Sig behind":                   func(x *impl.Item) { x.Kids = append(x.Kids, octetsOf(15)) },
		"without Cached":                 func(x *impl.Item) { x.Kids = x.Kids[:cached] },
		"without Time":                   func(x *impl.Item) { x.Kids = slices.Delete(x.Kids, time, time+1) },
		"without Plan":                   func(x *impl.Item) { x.Kids = slices.Delete(x.Kids, plan, plan+1) },
		"without Targets":                func(x *impl.Item) { x.Kids = x.Kids[1:] },
		"without Time and Cached":        func(x *impl.Item) { x.Kids = x.Kids[:time] },
		"without parts":                  func(x *impl.Item) { x.Kids = nil },
		"in a list":                      func(x *impl.Item) { *x = inLists(1, *x) },
		"in a list with a Sig":           func(x *impl.Item) { *x = inLists(1, *x, octetsOf(15)) },
		"of another tag":                 func(x *impl.Item) { *x = itemOf(4, textByLibrary(t, *x)) },
		"from the last part on":          func(x *impl.Item) { slices.Reverse(x.Kids) },
		"Targets and Plan, swapped":      func(x *impl.Item) { swap(x, targets, plan) },
		"Time and Cached, swapped":       func(x *impl.Item) { swap(x, time, cached) },
		"Plan and Want, swapped":         func(x *impl.Item) { swap(x, plan, want) },
		"Nonce and Plan, swapped":        func(x *impl.Item) { swap(x, nonce, plan) },
		"Nonce and Want, swapped":        func(x *impl.Item) { swap(x, nonce, want) },
		"Nonce and Time, swapped":        func(x *impl.Item) { swap(x, nonce, time) },
		"no Targets":                     func(x *impl.Item) { kid(x, targets).Kids = nil },
		"four Targets":                   func(x *impl.Item) { kid(x, targets).Kids = times(4, itemOf(4, "a")) },
		"four Targets of 0 bytes":        func(x *impl.Item) { kid(x, targets).Kids = times(4, itemOf(4, "")) },
		"forty Targets":                  func(x *impl.Item) { kid(x, targets).Kids = times(40, itemOf(4, "")) },
		"a Target of 401 bytes":          func(x *impl.Item) { *target(x, 0) = octetsOf(401) },
		"the last Target of 401 bytes":   func(x *impl.Item) { *target(x, 2) = octetsOf(401) },
		"a Target as a text":             func(x *impl.Item) { *target(x, 1) = itemOf(12, "a") },
		"a Target as a number":           func(x *impl.Item) { *target(x, 0) = itemOf(2, "\x01") },
		"a Target as a flag":             func(x *impl.Item) { *target(x, 2) = itemOf(1, "\xff") },
		"a Target as a list":             func(x *impl.Item) { *target(x, 0) = inLists(1, *target(x, 0)) },
		"a Target that is not in bytes":  func(x *impl.Item) { *target(x, 0) = letterByHand(t, someLetter()) },
		"a Target, not in a list":        func(x *impl.Item) { *kid(x, targets) = *target(x, 0) },
		"Targets, not in a list":         func(x *impl.Item) { x.Kids = slices.Concat(kid(x, targets).Kids, x.Kids[1:]) },
		"Targets in two lists":           func(x *impl.Item) { *kid(x, targets) = inLists(1, *kid(x, targets)) },
		"Targets as bytes":               func(x *impl.Item) { *kid(x, targets) = itemOf(4, textByLibrary(t, *kid(x, targets))) },
		"Targets with a number behind":   func(x *impl.Item) { kid(x, targets).Kids[2] = itemOf(2, "\x05") },
		"Targets with a list of nothing": func(x *impl.Item) { kid(x, targets).Kids[1] = itemOf(48, "") },
		"numbers in a list of their own": func(x *impl.Item) {
			x.Kids = slices.Replace(x.Kids, plan, cached, inLists(1, slices.Clone(x.Kids[plan:cached])...))
		},
		"a text where Plan stands":     func(x *impl.Item) { *kid(x, plan) = itemOf(12, "1") },
		"bytes where Want stand":       func(x *impl.Item) { *kid(x, want) = itemOf(4, "\x01") },
		"bytes where Nonce stands":     func(x *impl.Item) { kid(x, nonce).Tag = 4 },
		"a flag where Time stands":     func(x *impl.Item) { *kid(x, time) = itemOf(1, "\x00") },
		"a list where Nonce stands":    func(x *impl.Item) { *kid(x, nonce) = inLists(1, *kid(x, nonce)) },
		"a number where Cached stands": func(x *impl.Item) { *kid(x, cached) = itemOf(2, "\x01") },
		"bytes where Cached stands":    func(x *impl.Item) { kid(x, cached).Tag = 4 },
		"a list where Cached stands":   func(x *impl.Item) { *kid(x, cached) = inLists(1, *kid(x, cached)) },
		"a flag of the byte 1":         func(x *impl.Item) { kid(x, cached).Text = "\x01" },
		"a flag of the byte 254":       func(x *impl.Item) { kid(x, cached).Text = "\xfe" },
		"a flag of none":               func(x *impl.Item) { kid(x, cached).Text = "" },
		"a Plan of 100":                func(x *impl.Item) { *kid(x, plan) = numberItem(t, 100) },
		"a Plan below 0":               func(x *impl.Item) { kid(x, plan).Text = "\xff" },
		"a Plan, a byte 0 ahead":       func(x *impl.Item) { kid(x, plan).Text = "\x00\x05" },
		"a Want of 4":                  func(x *impl.Item) { *kid(x, want) = numberItem(t, 4) },
		"a Want of 256":                func(x *impl.Item) { *kid(x, want) = numberItem(t, 256) },
		"a Want below 0":               func(x *impl.Item) { kid(x, want).Text = "\xff" },
		"a Nonce beyond MaxNumber":     func(x *impl.Item) { kid(x, nonce).Text = "\x3b\x9a\xca\x01" },
		"a Nonce of five bytes":        func(x *impl.Item) { kid(x, nonce).Text = "\x01\x00\x00\x00\x05" },
		"a Nonce below 0":              func(x *impl.Item) { kid(x, nonce).Text = "\xff" },
		"a Nonce of nothing":           func(x *impl.Item) { kid(x, nonce).Text = "" },
		"a Time of 10000":              func(x *impl.Item) { *kid(x, time) = numberItem(t, 10000) },
		"a Time below 0":               func(x *impl.Item) { kid(x, time).Text = "\xd8\xf1" },
	}
	for name, change := range changes {
		x := askByHand(t, changedAsk(strayAsk(), func(a *impl.Ask) { a.Nonce = 70000 }))
		change(&x)
		text := textByLibrary(t, x)
		if got, ok := impl.ReadAsk(text); ok || !sameAsk(got, impl.Ask{}) {
			t.Errorf("%s: ReadAsk = %#v %v, want a whole refusal", name, got, ok)
		}
		checkNoAsk(t, text)
	}
	// The edges that are met, in the same way.
	for name, change := range map[string]func(x *impl.Item){
		"nothing":                 func(x *impl.Item) {},
		"one Target":              func(x *impl.Item) { kid(x, targets).Kids = kid(x, targets).Kids[:1] },
		"three Targets alike":     func(x *impl.Item) { kid(x, targets).Kids = times(3, *target(x, 0)) },
		"three Targets of 0":      func(x *impl.Item) { kid(x, targets).Kids = times(3, itemOf(4, "")) },
		"three Targets of 400":    func(x *impl.Item) { kid(x, targets).Kids = times(3, octetsOf(400)) },
		"a Target that is a list": func(x *impl.Item) { *target(x, 0) = itemOf(4, textByLibrary(t, *kid(x, targets))) },
		"a Plan of 0":             func(x *impl.Item) { *kid(x, plan) = numberItem(t, 0) },
		"a Plan of 99":            func(x *impl.Item) { *kid(x, plan) = numberItem(t, 99) },
		"a Want of 0":             func(x *impl.Item) { *kid(x, want) = numberItem(t, 0) },
		"a Want of 3":             func(x *impl.Item) { *kid(x, want) = numberItem(t, 3) },
		"a Nonce of 0":            func(x *impl.Item) { *kid(x, nonce) = numberItem(t, 0) },
		"a Nonce of MaxNumber":    func(x *impl.Item) { *kid(x, nonce) = numberItem(t, impl.MaxNumber) },
		"a Time of 0":             func(x *impl.Item) { *kid(x, time) = numberItem(t, 0) },
		"a Time of 9999":          func(x *impl.Item) { *kid(x, time) = numberItem(t, 9999) },
		"a flag of 0":             func(x *impl.Item) { kid(x, cached).Text = "\x00" },
	} {
		x := askByHand(t, strayAsk())
		change(&x)
		if !checkReadAsk(t, textByLibrary(t, x)) {
			t.Errorf("%s: no question", name)
		}
	}
}

// checkOwnTargets: neither the list, with the room behind it, nor its texts lie in another one's memory.
func checkOwnTargets(t *testing.T, answer, other []string) {
	t.Helper()
	if memoryOf(answer).meets(memoryOf(other)) {
		t.Fatal("ReadAsk: Targets share memory with another answer")
	}
	for _, one := range answer {
		if slices.ContainsFunc(other, func(text string) bool { return shares(one, text) }) {
			t.Fatal("ReadAsk: a Target shares memory with an argument, or another answer")
		}
	}
}

func TestAsksAreNewMemory(t *testing.T) {
	source := rand.New(rand.NewSource(143))
	asks := rightAsks(t)
	for range 300 {
		asks = append(asks, drawnAsk(source))
	}
	// One memory at several places.
	letter := letterText(t, someLetter())
	asks = append(asks, impl.Ask{Targets: []string{letter, letter, letter[:20]}}, impl.Ask{Targets: []string{letter[:50], letter[50:]}})
	for _, a := range asks {
		want := changedAsk(a, func(*impl.Ask) {})
		text, _ := impl.AskText(a)
		again, _ := impl.AskText(a)
		if again != text || shares(text, again) || slices.ContainsFunc(a.Targets, func(target string) bool { return shares(text, target) }) {
			t.Fatalf("AskText(%#v) hands out what it keeps, or a piece of its argument", a)
		}
		first, _ := impl.ReadAsk(text)
		second, _ := impl.ReadAsk(text)
		checkOwnTargets(t, first.Targets, second.Targets)
		checkOwnTargets(t, first.Targets, []string{text})
		for i := range first.Targets {
			checkOwnTargets(t, first.Targets[:i:i], slices.Clone(first.Targets[i:]))
		}
		room := first.Targets[:cap(first.Targets)]
		for i := range room {
			room[i] = "spoilt"
		}
		if third, ok := impl.ReadAsk(text); !ok || !sameAsk(second, want) || !sameAsk(third, want) || !sameAsk(a, want) {
			t.Fatalf("ReadAsk(%q) hands out one memory twice, or its argument", text)
		}
	}
}
