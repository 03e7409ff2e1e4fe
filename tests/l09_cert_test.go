package tests

import (
	"encoding/asn1"
	"math"
	"math/rand"
	"slices"
	"strings"
	"testing"
	"unsafe"

	"loop.example/g00394/impl"
)

func TestCertConstants(t *testing.T) {
	if impl.UseCert != 1 || impl.UseCrl != 2 || impl.UseData != 4 {
		t.Errorf("UseCert %d, UseCrl %d, UseData %d", impl.UseCert, impl.UseCrl, impl.UseData)
	}
}

// someLetter: a right one, with something in each of its fields.
func someLetter() impl.Cert {
	return impl.Cert{
		Serial: 300, Issuer: "root", Subject: "ca.org", From: 10, To: 9000, Key: impl.PublicAt(1), Ca: true, PathLen: 99, Usage: 5,
		Policies: []int{0, 1, 99}, Permits: []string{"a.org", "org"}, Denies: []string{"b.org"}, Sig: "\x00\x01said by hand\xff",
	}
}

// bareLetter: a right one, of as little as there may be.
func bareLetter() impl.Cert {
	return impl.Cert{Issuer: "a", Subject: "b", Key: strings.Repeat("\x00", 15), Sig: strings.Repeat("\x00", 15)}
}

// fullLetter: a right one, of as much as there may be.
func fullLetter() impl.Cert {
	name := func(first string) string { return first + strings.Repeat("z", 20-len(first)) }
	return impl.Cert{
		Serial: 9999, Issuer: name("r.t"), Subject: name("s.u.v"), From: 9999, To: 9999, Key: strings.Repeat("\xff", 15), Ca: true, PathLen: 99, Usage: 7,
		Policies: []int{96, 97, 98, 99}, Permits: []string{name("a"), name("b"), name("c"), name("d")}, Denies: []string{name("a."), name("b."), name("c."), name("d.")}, Sig: strings.Repeat("\xff", 15),
	}
}

// changed: the letter with one thing done to it, in memory of its own.
func changed(c impl.Cert, change func(c *impl.Cert)) impl.Cert {
	c.Policies, c.Permits, c.Denies = slices.Clone(c.Policies), slices.Clone(c.Permits), slices.Clone(c.Denies)
	change(&c)
	return c
}

func sameLetter(a, b impl.Cert) bool {
	return a.Serial == b.Serial && a.Issuer == b.Issuer && a.Subject == b.Subject && a.From == b.From && a.To == b.To && a.Key == b.Key &&
		a.Ca == b.Ca && a.PathLen == b.PathLen && a.Usage == b.Usage && a.Sig == b.Sig &&
		slices.Equal(a.Policies, b.Policies) && slices.Equal(a.Permits, b.Permits) && slices.Equal(a.Denies, b.Denies)
}

// letterRight: CertOk by hand.
func letterRight(c impl.Cert) bool {
	for _, one := range []struct{ n, most int }{{c.Serial, 9999}, {c.From, 9999}, {c.To, 9999}, {c.PathLen, 99}, {c.Usage, 7}} {
		if one.n < 0 || one.n > one.most {
			return false
		}
	}
	return nameByLibrary(c.Issuer) && nameByLibrary(c.Subject) && len(c.Key) == 15 && len(c.Sig) == 15 &&
		policiesByLibrary(c.Policies) && namesByLibrary(c.Permits) && namesByLibrary(c.Denies)
}

// numberItem: the library's own bytes of a number; of 0 when it is out of range.
func numberItem(t *testing.T, n int) impl.Item {
	t.Helper()
	if n < 0 || n > 1000000000 {
		n = 0
	}
	text, err := asn1.Marshal(n)
	if err != nil {
		t.Fatalf("%d: the case is none: %v", n, err)
	}
	return itemOf(2, string(text[2:]))
}

func bodyByHand(t *testing.T, c impl.Cert) impl.Item {
	t.Helper()
	policies, permits, denies := itemOf(48, ""), itemOf(48, ""), itemOf(48, "")
	for _, n := range c.Policies {
		policies.Kids = append(policies.Kids, numberItem(t, n))
	}
	for _, name := range c.Permits {
		permits.Kids = append(permits.Kids, itemOf(12, name))
	}
	for _, name := range c.Denies {
		denies.Kids = append(denies.Kids, itemOf(12, name))
	}
	ca := "\x00"
	if c.Ca {
		ca = "\xff"
	}
	return itemOf(48, "",
		numberItem(t, c.Serial), itemOf(12, c.Issuer), itemOf(48, "", numberItem(t, c.From), numberItem(t, c.To)), itemOf(12, c.Subject), itemOf(4, c.Key), itemOf(1, ca),
		numberItem(t, c.PathLen), numberItem(t, c.Usage), policies, permits, denies)
}

func letterByHand(t *testing.T, c impl.Cert) impl.Item {
	t.Helper()
	return itemOf(48, "", bodyByHand(t, c), itemOf(4, c.Sig))
}

// bodyTextByHand: nothing when a text of it has a byte that none may have, a list is too long, or all of it is.
func bodyTextByHand(t *testing.T, c impl.Cert) string {
	t.Helper()
	for _, text := range slices.Concat([]string{c.Issuer, c.Subject}, c.Permits, c.Denies) {
		if strings.ContainsFunc(text, func(r rune) bool { return r < 32 || r > 126 }) {
			return ""
		}
	}
	if len(c.Policies) > 40 || len(c.Permits) > 40 || len(c.Denies) > 40 {
		return ""
	}
	if text := textByLibrary(t, bodyByHand(t, c)); len(text) <= 4000 {
		return text
	}
	return ""
}

// guardedLetter: c in lists that have room behind them, and whether all of that is still as it was.
func guardedLetter(c impl.Cert) (impl.Cert, func() bool) {
	handed := c
	policies, firstAsItWas := guarded(c.Policies)
	permits, secondAsItWas := guardedNames(c.Permits)
	denies, thirdAsItWas := guardedNames(c.Denies)
	handed.Policies, handed.Permits, handed.Denies = policies, permits, denies
	return handed, func() bool { return firstAsItWas() && secondAsItWas() && thirdAsItWas() }
}

type bodyParts struct {
	Serial   int64
	Issuer   asn1.RawValue
	Times    struct{ From, To int64 }
	Subject  asn1.RawValue
	Key      []byte
	Ca       bool
	PathLen  int64
	Usage    int64
	Policies []int64
	Permits  []asn1.RawValue
	Denies   []asn1.RawValue
}

type letterParts struct {
	Body bodyParts
	Sig  []byte
}

// letterByLibrary: the right letter that the library's own reader of this form finds in the text. As that overlooks what stands behind the last part of a list, and tags of texts, the letter is written again, and must make the same bytes.
func letterByLibrary(t *testing.T, text string) (impl.Cert, bool) {
	t.Helper()
	var parts letterParts
	rest, err := asn1.Unmarshal([]byte(text), &parts)
	if err != nil || len(rest) > 0 {
		return impl.Cert{}, false
	}
	texts := func(list []asn1.RawValue) []string {
		out := []string{}
		for _, one := range list {
			out = append(out, string(one.Bytes))
		}
		return out
	}
	body := parts.Body
	c := impl.Cert{
		Serial: int(body.Serial), Issuer: string(body.Issuer.Bytes), Subject: string(body.Subject.Bytes), From: int(body.Times.From), To: int(body.Times.To), Key: string(body.Key),
		Ca: body.Ca, PathLen: int(body.PathLen), Usage: int(body.Usage), Permits: texts(body.Permits), Denies: texts(body.Denies), Sig: string(parts.Sig),
	}
	for _, n := range body.Policies {
		c.Policies = append(c.Policies, int(n))
	}
	if !letterRight(c) || textByLibrary(t, letterByHand(t, c)) != text {
		return impl.Cert{}, false
	}
	return c, true
}

// checkReadLetter: what ReadCert answers of a text is held against the library's reader, whole; what is read is written to the same bytes. It tells whether there is a letter.
func checkReadLetter(t *testing.T, text string) bool {
	t.Helper()
	want, ok := letterByLibrary(t, text)
	before := strings.Clone(text)
	got, right := impl.ReadCert(text)
	if right != ok || !sameLetter(got, want) || text != before {
		t.Fatalf("ReadCert(%.400q) = %#v %v, want %#v %v", text, got, right, want, ok)
	}
	if !ok {
		return false
	}
	if again, written := impl.CertText(got); !written || again != text || !impl.CertOk(got) {
		t.Fatalf("ReadCert(%q) is true; CertText of it %q %v", text, again, written)
	}
	return true
}

func checkNoLetter(t *testing.T, text string) {
	t.Helper()
	if checkReadLetter(t, text) {
		t.Fatalf("%.400q: the case is none, there is a letter in it", text)
	}
}

// checkLetter: all that is asked of one letter but Signed, whole; promise 9, when it is right.
func checkLetter(t *testing.T, c impl.Cert, want bool) {
	t.Helper()
	if byHand := letterRight(c); byHand != want {
		t.Fatalf("%#v: the case is none, by hand it is %v", c, byHand)
	}
	handed, untouched := guardedLetter(c)
	if got := impl.CertOk(handed); got != want {
		t.Fatalf("CertOk(%#v) = %v, want %v", c, got, want)
	}
	body := bodyByHand(t, c)
	if got := impl.BodyItem(handed); !alike(got, body) || len(got.Kids) != 11 {
		t.Fatalf("BodyItem(%#v) = %.400q, want %.400q", c, textByLibrary(t, got), textByLibrary(t, body))
	}
	bodyText := bodyTextByHand(t, c)
	if got := impl.BodyText(handed); got != bodyText {
		t.Fatalf("BodyText(%#v) = %.400q, want %.400q", c, got, bodyText)
	}
	whole := textByLibrary(t, letterByHand(t, c))
	text, ok := impl.CertText(handed)
	if wantText := map[bool]string{true: whole}[want]; ok != want || text != wantText {
		t.Fatalf("CertText(%#v) = %.400q %v, want %.400q %v", c, text, ok, wantText, want)
	}
	if !untouched() {
		t.Fatalf("%#v: what was handed in is written to", c)
	}
	if !want {
		// Its bytes may be those of a right one: numbers out of range are told as 0.
		if checkReadLetter(t, whole) && sameLetter(c, readBack(t, whole)) {
			t.Fatalf("%#v: it is not right, and comes back", c)
		}
		return
	}
	if !strings.Contains(text, bodyText) || bodyText == "" {
		t.Fatalf("CertText(%#v) = %q, in which BodyText %q does not stand", c, text, bodyText)
	}
	if back := readBack(t, text); !sameLetter(back, c) {
		t.Fatalf("%#v comes back as %#v", c, back)
	}
}

func readBack(t *testing.T, text string) impl.Cert {
	t.Helper()
	if !checkReadLetter(t, text) {
		t.Fatalf("ReadCert(%.400q) is false", text)
	}
	back, _ := impl.ReadCert(text)
	return back
}

func TestLettersInTheirBytes(t *testing.T) {
	key, sig := "\xd9\x05\xd1\x17\x85\x29\x31\x0b\x3f\x11\x4b\xaa\x01\x02\x03", "\x00sig of hand\x00\xff\x00"
	cases := []struct {
		c    impl.Cert
		body string
		head string
	}{
		{
			impl.Cert{Serial: 1, Issuer: "root", Subject: "ca.org", From: 10, To: 200, Key: key, Ca: true, PathLen: 99, Usage: 7, Policies: []int{0, 1, 99}, Permits: []string{"a.org", "org"}, Denies: []string{"b"}, Sig: sig},
			"\x30\x52" + "\x02\x01\x01" + "\x0c\x04root" + "\x30\x07\x02\x01\x0a\x02\x02\x00\xc8" + "\x0c\x06ca.org" + "\x04\x0f" + key + "\x01\x01\xff" + "\x02\x01\x63" + "\x02\x01\x07" +
				"\x30\x09\x02\x01\x00\x02\x01\x01\x02\x01\x63" + "\x30\x0c\x0c\x05a.org\x0c\x03org" + "\x30\x03\x0c\x01b",
			"\x30\x65",
		},
		{
			impl.Cert{Issuer: "a", Subject: "b", Key: key, Sig: sig},
			"\x30\x31" + "\x02\x01\x00" + "\x0c\x01a" + "\x30\x06\x02\x01\x00\x02\x01\x00" + "\x0c\x01b" + "\x04\x0f" + key + "\x01\x01\x00" + "\x02\x01\x00" + "\x02\x01\x00" + "\x30\x00" + "\x30\x00" + "\x30\x00",
			"\x30\x44",
		},
		{
			impl.Cert{Serial: 9999, Issuer: "b.c", Subject: "b.c", From: 9999, To: 128, Key: key, Ca: false, PathLen: 5, Usage: 2, Policies: []int{5}, Denies: []string{"a", "b", "c", "d"}, Sig: sig},
			"\x30\x47" + "\x02\x02\x27\x0f" + "\x0c\x03b.c" + "\x30\x08\x02\x02\x27\x0f\x02\x02\x00\x80" + "\x0c\x03b.c" + "\x04\x0f" + key + "\x01\x01\x00" + "\x02\x01\x05" + "\x02\x01\x02" +
				"\x30\x03\x02\x01\x05" + "\x30\x00" + "\x30\x0c\x0c\x01a\x0c\x01b\x0c\x01c\x0c\x01d",
			"\x30\x5a",
		},
	}
	for _, c := range cases {
		whole := c.head + c.body + "\x04\x0f" + sig
		if got := impl.BodyText(c.c); got != c.body {
			t.Errorf("BodyText = %q, want %q", got, c.body)
		}
		if got, ok := impl.CertText(c.c); !ok || got != whole {
			t.Errorf("CertText = %q %v, want %q", got, ok, whole)
		}
		if got, ok := impl.ReadCert(whole); !ok || !sameLetter(got, c.c) {
			t.Errorf("ReadCert(%q) = %#v %v, want %#v", whole, got, ok, c.c)
		}
		checkLetter(t, c.c, true)
	}
}

func TestLettersComeBack(t *testing.T) {
	for _, c := range []impl.Cert{someLetter(), bareLetter(), fullLetter()} {
		checkLetter(t, c, true)
		for _, ca := range []bool{false, true} {
			for usage := range 8 {
				checkLetter(t, changed(c, func(c *impl.Cert) { c.Ca, c.Usage = ca, usage }), true)
			}
		}
	}
	// Nobody asks whether From is ahead of To, whether one signed for himself, or whether Permits are denied.
	checkLetter(t, changed(someLetter(), func(c *impl.Cert) { c.From, c.To = 90, 10 }), true)
	checkLetter(t, changed(someLetter(), func(c *impl.Cert) { c.Issuer, c.Subject = "root", "root" }), true)
	checkLetter(t, changed(someLetter(), func(c *impl.Cert) { c.Permits, c.Denies = []string{"a"}, []string{"a"} }), true)
	checkLetter(t, changed(someLetter(), func(c *impl.Cert) { c.Ca, c.PathLen, c.Usage = false, 99, 7 }), true)
}

// TestLettersThatAreNothing: the zero value, and right letters with one field of it.
func TestLettersThatAreNothing(t *testing.T) {
	checkLetter(t, impl.Cert{}, false)
	for _, c := range []impl.Cert{someLetter(), bareLetter(), fullLetter()} {
		checkLetter(t, changed(c, func(c *impl.Cert) { c.Serial, c.From, c.To, c.PathLen, c.Usage, c.Ca = 0, 0, 0, 0, 0, false }), true)
		checkLetter(t, changed(c, func(c *impl.Cert) { c.Policies, c.Permits, c.Denies = nil, nil, nil }), true)
		checkLetter(t, changed(c, func(c *impl.Cert) { c.Policies, c.Permits, c.Denies = []int{}, []string{}, []string{} }), true)
		checkLetter(t, changed(c, func(c *impl.Cert) { c.Issuer = "" }), false)
		checkLetter(t, changed(c, func(c *impl.Cert) { c.Subject = "" }), false)
		checkLetter(t, changed(c, func(c *impl.Cert) { c.Key = "" }), false)
		checkLetter(t, changed(c, func(c *impl.Cert) { c.Sig = "" }), false)
	}
}

// edgeNumbers: numbers about the limits of all fields, and far from them.
func edgeNumbers() []int {
	return []int{
		-1, -2, -99, -256, 0, 1, 2, 6, 7, 8, 9, 10, 11, 15, 98, 99, 100, 101, 127, 128, 129, 255, 256, 257, 9998, 9999, 10000, 10001, 32767, 32768, 65535, 65536, 65537,
		999999999, 1000000000, 1000000001, math.MaxInt32, math.MinInt32, 1 << 32, 1<<32 + 1, 1<<40 + 5, math.MaxInt, math.MinInt, math.MinInt + 1,
	}
}

func TestLetterNumbers(t *testing.T) {
	fields := []struct {
		most int
		of   func(c *impl.Cert) *int
	}{
		{9999, func(c *impl.Cert) *int { return &c.Serial }},
		{9999, func(c *impl.Cert) *int { return &c.From }},
		{9999, func(c *impl.Cert) *int { return &c.To }},
		{99, func(c *impl.Cert) *int { return &c.PathLen }},
		{7, func(c *impl.Cert) *int { return &c.Usage }},
	}
	for _, c := range []impl.Cert{someLetter(), bareLetter(), fullLetter()} {
		for _, field := range fields {
			for _, n := range edgeNumbers() {
				checkLetter(t, changed(c, func(c *impl.Cert) { *field.of(c) = n }), n >= 0 && n <= field.most)
			}
		}
	}
	for n := -20; n <= 10020; n++ {
		c := changed(bareLetter(), func(c *impl.Cert) { c.Serial, c.From, c.To = n, n, n })
		checkLetter(t, c, n >= 0 && n <= 9999)
	}
}

func TestLetterNames(t *testing.T) {
	edge := "abcdefghijklmnopqrst"
	if len(edge) != 20 {
		t.Fatal("the case is none")
	}
	names := map[string]bool{edge: true, edge + "u": false, edge[:19]: true, "a.cdefghijklmnopqrstu": false}
	for _, name := range rightNames() {
		names[name] = true
	}
	for _, name := range wrongNames() {
		names[name] = false
	}
	for name, right := range names {
		for _, c := range []impl.Cert{someLetter(), bareLetter()} {
			checkLetter(t, changed(c, func(c *impl.Cert) { c.Issuer = name }), right)
			checkLetter(t, changed(c, func(c *impl.Cert) { c.Subject = name }), right)
			checkLetter(t, changed(c, func(c *impl.Cert) { c.Permits = []string{name} }), right)
			checkLetter(t, changed(c, func(c *impl.Cert) { c.Denies = []string{name} }), right)
		}
	}
	lists := [][]string{
		nil, {"a", "b", "c", "d"}, {"a", "b", "c", "d", "e"}, {"a", "a"}, {"b", "a"}, {"a", "c", "b"}, {"a", "b", "c", "c"}, {"a", ""}, {"", "a"}, {"a", "B"}, {"a", edge}, {"a", "b" + edge},
		{"a", "a.a", "aa", "ab"}, {"a.org", "b.org", "org"}, {"a", "b", "c", "d", "e", "f"}, {"a", "b", "c", "d", ""},
	}
	for _, permits := range lists {
		for _, denies := range lists {
			c := changed(someLetter(), func(c *impl.Cert) { c.Permits, c.Denies = permits, denies })
			checkLetter(t, c, namesByLibrary(permits) && namesByLibrary(denies))
		}
	}
}

// TestLetterPolicies: policies of any kind: none, AnyPolicy alone and with others, several, out of range, not ascending, too many.
func TestLetterPolicies(t *testing.T) {
	for _, list := range [][]int{nil, {}, {impl.AnyPolicy}, {1}, {99}, {impl.AnyPolicy, 1}, {impl.AnyPolicy, 99}, {1, 2}, {0, 1, 2, 3}, {96, 97, 98, 99}, {0, 33, 66, 99}} {
		checkLetter(t, changed(someLetter(), func(c *impl.Cert) { c.Policies = list }), true)
	}
	for _, list := range [][]int{{-1}, {100}, {1, 0}, {0, 0}, {1, 1}, {99, 0}, {0, 1, 2, 3, 4}, {1, 2, 3, 4, 5}, {0, 2, 1}, {128}, {256}, {1000000000}, {1000000001}, {1 << 32}, {math.MaxInt}, {math.MinInt}, {0, math.MaxInt}} {
		checkLetter(t, changed(someLetter(), func(c *impl.Cert) { c.Policies = list }), false)
	}
	for n := -130; n <= 300; n++ {
		checkLetter(t, changed(someLetter(), func(c *impl.Cert) { c.Policies = []int{n} }), n >= 0 && n <= 99)
	}
	allLists([]int{-1, 0, 1, 98, 99, 100}, 5, func(list []int) {
		checkLetter(t, changed(bareLetter(), func(c *impl.Cert) { c.Policies = list }), policiesByLibrary(list))
	})
}

func TestLetterKeysAndSigs(t *testing.T) {
	for size := range 300 {
		text := textOfSize(size)
		for _, c := range []impl.Cert{someLetter(), bareLetter()} {
			checkLetter(t, changed(c, func(c *impl.Cert) { c.Key = text }), size == impl.KeySize)
			checkLetter(t, changed(c, func(c *impl.Cert) { c.Sig = text }), size == impl.KeySize)
			checkLetter(t, changed(c, func(c *impl.Cert) { c.Key, c.Sig = text, text }), size == impl.KeySize)
		}
	}
	// Any bytes are a key, and a signature, right or not.
	for b := range 256 {
		text := strings.Repeat(string([]byte{byte(b)}), impl.KeySize)
		checkLetter(t, changed(someLetter(), func(c *impl.Cert) { c.Key = text }), true)
		checkLetter(t, changed(someLetter(), func(c *impl.Cert) { c.Sig = text }), true)
	}
	for i := range impl.Secrets {
		checkLetter(t, changed(someLetter(), func(c *impl.Cert) { c.Key = impl.PublicAt(i) }), true)
	}
}

// drawnKey: any bytes, of a key or of a signature.
func drawnKey(source *rand.Rand) string {
	text := make([]byte, impl.KeySize)
	source.Read(text)
	return string(text)
}

// drawnNumber: one in 0 .. most, often one of its ends.
func drawnNumber(source *rand.Rand, most int) int {
	return []int{0, most, source.Intn(most + 1), source.Intn(most + 1)}[source.Intn(4)]
}

// drawnLetter: a right one.
func drawnLetter(source *rand.Rand) impl.Cert {
	names := func() []string {
		list := []string{}
		for range source.Intn(5) {
			list = append(list, drawnName(source))
		}
		return slices.Compact(slices.Sorted(slices.Values(list)))
	}
	number := func(most int) int { return drawnNumber(source, most) }
	policies := []int{}
	for range source.Intn(5) {
		policies = append(policies, number(99))
	}
	return impl.Cert{
		Serial: number(9999), Issuer: drawnName(source), Subject: drawnName(source), From: number(9999), To: number(9999), Key: drawnKey(source), Ca: source.Intn(2) == 0, PathLen: number(99), Usage: source.Intn(8),
		Policies: slices.Compact(slices.Sorted(slices.Values(policies))), Permits: names(), Denies: names(), Sig: drawnKey(source),
	}
}

func TestDrawnLettersComeBack(t *testing.T) {
	source := rand.New(rand.NewSource(9))
	for range 3000 {
		checkLetter(t, drawnLetter(source), true)
	}
}

// TestLettersThatDiffer: no two right letters have one text; they have one BodyText when they differ in Sig alone.
func TestLettersThatDiffer(t *testing.T) {
	some := someLetter()
	list := []impl.Cert{some}
	for _, change := range []func(c *impl.Cert){
		func(c *impl.Cert) { c.Serial++ }, func(c *impl.Cert) { c.Issuer = "ca.org" }, func(c *impl.Cert) { c.Subject = "root" }, func(c *impl.Cert) { c.Issuer, c.Subject = c.Subject, c.Issuer },
		func(c *impl.Cert) { c.From++ }, func(c *impl.Cert) { c.To++ }, func(c *impl.Cert) { c.From, c.To = c.To, c.From }, func(c *impl.Cert) { c.Key = impl.PublicAt(2) }, func(c *impl.Cert) { c.Ca = false },
		func(c *impl.Cert) { c.PathLen-- }, func(c *impl.Cert) { c.PathLen, c.Usage = 5, 7 }, func(c *impl.Cert) { c.PathLen, c.Usage = 7, 5 }, func(c *impl.Cert) { c.Usage-- }, func(c *impl.Cert) { c.Policies = nil }, func(c *impl.Cert) { c.Policies = []int{0} },
		func(c *impl.Cert) { c.Policies = []int{0, 1} }, func(c *impl.Cert) { c.Policies = []int{1, 99} }, func(c *impl.Cert) { c.Permits = nil }, func(c *impl.Cert) { c.Denies = nil },
		func(c *impl.Cert) { c.Permits, c.Denies = c.Denies, c.Permits }, func(c *impl.Cert) { c.Permits = []string{"a.org"} }, func(c *impl.Cert) { c.Denies = []string{"b.orh"} },
	} {
		list = append(list, changed(some, change))
	}
	for i, a := range list {
		checkLetter(t, a, true)
		if signed := changed(a, func(c *impl.Cert) { c.Sig = textOfSize(15) }); impl.BodyText(signed) != impl.BodyText(a) {
			t.Errorf("letter %d: its Sig is in its BodyText", i)
		}
		for j, b := range list[:i] {
			one, _ := impl.CertText(a)
			other, _ := impl.CertText(b)
			if one == other || impl.BodyText(a) == impl.BodyText(b) {
				t.Errorf("letters %d and %d have one text", i, j)
			}
		}
	}
}

// checkSigned: what house i signs is held whole.
func checkSigned(t *testing.T, c impl.Cert, i int) impl.Cert {
	t.Helper()
	want := c
	want.Sig = ""
	if i >= 0 && i < impl.Secrets {
		want.Sig = signByLibrary(t, i, bodyTextByHand(t, c))
	}
	handed, untouched := guardedLetter(c)
	got := impl.Signed(handed, i)
	if !sameLetter(got, want) || !untouched() {
		t.Fatalf("Signed(%#v, %d) = %#v, want %#v; untouched: %v", c, i, got, want, untouched())
	}
	return got
}

func TestSigned(t *testing.T) {
	for _, c := range []impl.Cert{someLetter(), bareLetter(), fullLetter()} {
		for i := range impl.Secrets {
			got := checkSigned(t, c, i)
			checkLetter(t, got, true)
			for other := range impl.Secrets {
				if ok := impl.SigOk(impl.PublicAt(other), impl.BodyText(got), got.Sig); ok != (other == i) {
					t.Errorf("signed by house %d, by the key of house %d it is %v", i, other, ok)
				}
			}
			// What was signed before is no matter, and signing it again changes nothing.
			for _, sig := range []string{"", "short", got.Sig, textOfSize(15), textOfSize(16), textOfSize(5000)} {
				if again := checkSigned(t, changed(c, func(c *impl.Cert) { c.Sig = sig }), i); !sameLetter(again, got) {
					t.Errorf("house %d signs otherwise of a letter with a Sig of %d bytes", i, len(sig))
				}
			}
		}
		for _, i := range noHouses() {
			checkLetter(t, checkSigned(t, c, i), false)
		}
	}
}

// TestSignedOfWrongLetters: what is signed is BodyText, whatever the letter is; the empty text, when there is none.
func TestSignedOfWrongLetters(t *testing.T) {
	wrong := []impl.Cert{{}}
	for _, change := range []func(c *impl.Cert){
		func(c *impl.Cert) { c.Serial = -1 }, func(c *impl.Cert) { c.From = 10000 }, func(c *impl.Cert) { c.Usage = 8 }, func(c *impl.Cert) { c.PathLen = 100 }, func(c *impl.Cert) { c.Key = "" }, func(c *impl.Cert) { c.Key = textOfSize(16) },
		func(c *impl.Cert) { c.Issuer = "" }, func(c *impl.Cert) { c.Subject = "No Name" }, func(c *impl.Cert) { c.Policies = []int{5, 4, 3, 2, 1, -1, 1 << 40} }, func(c *impl.Cert) { c.Permits = []string{"z", "a", "a"} },
		func(c *impl.Cert) { c.Issuer = "\n" }, func(c *impl.Cert) { c.Subject = "\xff" }, func(c *impl.Cert) { c.Denies = []string{"\x00"} }, func(c *impl.Cert) { c.Policies = make([]int, 41) }, func(c *impl.Cert) { c.Key = textOfSize(4000) },
	} {
		wrong = append(wrong, changed(someLetter(), change))
	}
	empty := 0
	for _, c := range wrong {
		checkLetter(t, c, false)
		for _, i := range append(noHouses(), 0, 1, 2, 3, 4, 5) {
			got := checkSigned(t, c, i)
			if got.Sig != impl.SignWith(i, impl.BodyText(c)) {
				t.Fatalf("Signed(%#v, %d) has the Sig %x", c, i, got.Sig)
			}
		}
		if impl.BodyText(c) == "" {
			empty++
		}
	}
	if empty != 5 {
		t.Errorf("%d without BodyText, want 5: the cases are none", empty)
	}
}

func TestSignedOfDrawnLetters(t *testing.T) {
	source := rand.New(rand.NewSource(91))
	for round := range 100 {
		i := round % impl.Secrets
		got := checkSigned(t, drawnLetter(source), i)
		checkLetter(t, got, true)
		text, _ := impl.CertText(got)
		back, ok := impl.ReadCert(text)
		if !ok || !impl.SigOk(impl.PublicAt(i), impl.BodyText(back), back.Sig) {
			t.Fatalf("signed by house %d, it comes back otherwise: %#v", i, back)
		}
		if back.Serial ^= 1; impl.SigOk(impl.PublicAt(i), impl.BodyText(back), back.Sig) {
			t.Fatalf("signed by house %d, the signature holds of another letter, too: %#v", i, back)
		}
	}
}

// TestBodiesThatCannotBe: what BodyText answers of letters whose item can't be written, and just before.
func TestBodiesThatCannotBe(t *testing.T) {
	many := func(count int) []string { return strings.Split(strings.Repeat("a ", count-1)+"a", " ") }
	for _, count := range []int{5, 39, 40, 41, 42, 100, 5000} {
		for _, change := range []func(c *impl.Cert){
			func(c *impl.Cert) { c.Policies = make([]int, count) }, func(c *impl.Cert) { c.Permits = many(count) }, func(c *impl.Cert) { c.Denies = many(count) },
		} {
			c := changed(someLetter(), change)
			checkLetter(t, c, false)
			if text := impl.BodyText(c); (text != "") != (count <= 40) {
				t.Errorf("BodyText of a list of %d has %d bytes", count, len(text))
			}
		}
	}
	fields := []func(c *impl.Cert, text string){
		func(c *impl.Cert, text string) { c.Issuer = text }, func(c *impl.Cert, text string) { c.Subject = text },
		func(c *impl.Cert, text string) { c.Permits = []string{"a", text} }, func(c *impl.Cert, text string) { c.Denies = []string{text, "a"} },
	}
	for _, field := range fields {
		for b := range 256 {
			c := changed(someLetter(), func(c *impl.Cert) { field(c, "a"+string([]byte{byte(b)})) })
			checkLetter(t, c, letterRight(c))
			if text := impl.BodyText(c); (text != "") != (b >= 32 && b <= 126) {
				t.Errorf("BodyText with the byte %d has %d bytes", b, len(text))
			}
		}
	}
	// Key, where any bytes may stand, till the whole is too long.
	longest := 0
	for size := 3800; size <= 4100; size++ {
		c := changed(bareLetter(), func(c *impl.Cert) { c.Key = textOfSize(size) })
		checkLetter(t, c, false)
		longest = max(longest, len(impl.BodyText(c)))
	}
	if longest != impl.MaxBytes {
		t.Errorf("the longest BodyText has %d bytes, want %d", longest, impl.MaxBytes)
	}
	for _, size := range []int{65535, 65536, 1 << 20} {
		checkLetter(t, changed(bareLetter(), func(c *impl.Cert) { c.Key = strings.Repeat("k", size) }), false)
		checkLetter(t, changed(bareLetter(), func(c *impl.Cert) { c.Sig = strings.Repeat("s", size) }), false)
		checkLetter(t, changed(bareLetter(), func(c *impl.Cert) { c.Issuer = strings.Repeat("i", size) }), false)
	}
}

// strayTexts: no bytes at all, few and many of one kind, and those of drawn items.
func strayTexts(t *testing.T, source *rand.Rand) []string {
	t.Helper()
	list := []string{""}
	for b := range 256 {
		list = append(list, string([]byte{byte(b)}), string([]byte{48, byte(b)}))
	}
	for _, size := range []int{1, 100, 3999, 4000, 4001, 100000} {
		list = append(list, strings.Repeat("\x00", size), strings.Repeat("\x30", size), strings.Repeat("\xff", size), textOfSize(size))
	}
	for range 3000 {
		list = append(list, textByLibrary(t, drawnItem(source, 4, 20)))
	}
	return list
}

func TestNoBytesAreNoLetter(t *testing.T) {
	for _, text := range strayTexts(t, rand.New(rand.NewSource(92))) {
		checkNoLetter(t, text)
	}
}

// TestLettersWithBytesTurned: each byte of a text made each other byte; what is a letter then is another one, told in one way.
func TestLettersWithBytesTurned(t *testing.T) {
	for _, c := range []impl.Cert{someLetter(), bareLetter(), fullLetter()} {
		text, _ := impl.CertText(c)
		right, wrong := 0, 0
		for at := range len(text) {
			for bits := 1; bits < 256; bits++ {
				other := turned(text, at, byte(bits))
				if !checkReadLetter(t, other) {
					wrong++
					continue
				}
				right++
				if back, _ := impl.ReadCert(other); sameLetter(back, c) {
					t.Fatalf("%q and %q are read as one letter", text, other)
				}
			}
		}
		if right < 1000 || wrong < 1000 {
			t.Errorf("%d right, %d wrong: too few", right, wrong)
		}
	}
}

// textsMoreAndLess: a text without some of its bytes, with others between or behind, twice, and with its length told in other ways.
func textsMoreAndLess(text string) []string {
	list := []string{}
	for at := range len(text) {
		list = append(list, text[:at], text[at+1:], text[:at]+text[at+1:])
		for _, b := range []string{"\x00", "\x01", "\x02", "\x04", "\x0c", "\x30", "a", ".", "\x80", "\x81", "\xff", text[at : at+1]} {
			list = append(list, text[:at]+b+text[at:])
		}
	}
	for b := range 256 {
		list = append(list, text+string([]byte{byte(b)}))
	}
	return append(list, text+text, text[2:], "\x30\x82\x00"+text[2:], "\x30\x80"+text[2:]+"\x00\x00")
}

// drawnDamage: the text with one to three of its bytes made others.
func drawnDamage(source *rand.Rand, text string) string {
	bytes := []byte(text)
	for range source.Intn(3) + 1 {
		at := source.Intn(len(bytes))
		switch source.Intn(4) {
		case 0:
			bytes[at] = byte(source.Intn(256))
		case 1:
			bytes[at]++
		case 2:
			bytes[at] = []byte{0, 1, 2, 4, 12, 48, 128, 129, 255}[source.Intn(9)]
		case 3:
			other := source.Intn(len(bytes))
			bytes[at], bytes[other] = bytes[other], bytes[at]
		}
	}
	return string(bytes)
}

func TestLettersWithBytesMoreAndLess(t *testing.T) {
	for _, c := range []impl.Cert{someLetter(), bareLetter(), fullLetter(), impl.Signed(someLetter(), 3)} {
		text, _ := impl.CertText(c)
		for _, other := range append(textsMoreAndLess(text), impl.BodyText(c), impl.BodyText(c)+c.Sig) {
			checkNoLetter(t, other)
		}
	}
	source := rand.New(rand.NewSource(93))
	right := 0
	for range 40000 {
		text, _ := impl.CertText(drawnLetter(source))
		if checkReadLetter(t, drawnDamage(source, text)) {
			right++
		}
	}
	if right < 1000 {
		t.Errorf("%d right: too few", right)
	}
}

// strangers: items to stand where others should.
func strangers() []impl.Item {
	return []impl.Item{
		itemOf(1, "\x00"), itemOf(1, "\xff"), itemOf(2, "\x00"), itemOf(2, "\x05"), itemOf(2, "\x27\x0f"), itemOf(2, "\x27\x10"), itemOf(2, "\x7f\xff\xff\xff\xff"), itemOf(4, ""), itemOf(4, textOfSize(14)), itemOf(4, textOfSize(15)), itemOf(4, textOfSize(16)),
		itemOf(12, ""), itemOf(12, "a"), itemOf(12, "zz.z"), itemOf(12, "A"), itemOf(48, ""), inLists(1, itemOf(2, "\x00")), inLists(1, itemOf(12, "a")), inLists(1, itemOf(2, "\x01"), itemOf(2, "\x02")), inLists(1, itemOf(12, "a"), itemOf(12, "b")), inLists(2), inLists(5),
		inLists(1, itemOf(12, "b"), itemOf(12, "a")), inLists(1, itemOf(2, "\x02"), itemOf(2, "\x01")), inLists(1, itemOf(2, "\x01"), itemOf(12, "a")), inLists(1, itemOf(1, "\xff")), inLists(1, itemOf(4, "a")),
		// What is no item.
		itemOf(1, ""), itemOf(1, "\x01"), itemOf(1, "\xfe"), itemOf(1, "\x00\x00"), itemOf(2, ""), itemOf(2, "\x00\x05"), itemOf(2, "\xff"), itemOf(12, "\n"), itemOf(0, ""), itemOf(3, "\x00"), itemOf(5, ""), itemOf(10, "\x01"), itemOf(19, "a"), itemOf(22, "a"), itemOf(49, ""), itemOf(160, ""),
	}
}

// itemsBeside: at each place of an item each of strangers, in place of what stands there, ahead of it and behind it; each kid left out, twice, or in another one's place; other tags.
func itemsBeside(whole impl.Item) []impl.Item {
	list := []impl.Item{}
	try := func(place int, change func(x *impl.Item)) {
		x := cloned(whole)
		change(allOf(&x)[place])
		list = append(list, x)
	}
	for place, one := range allOf(&whole) {
		for _, stranger := range strangers() {
			try(place, func(x *impl.Item) { *x = stranger })
			for at := range len(one.Kids) + 1 {
				try(place, func(x *impl.Item) { x.Kids = slices.Insert(x.Kids, at, stranger) })
			}
		}
		for at := range one.Kids {
			try(place, func(x *impl.Item) { x.Kids = slices.Delete(x.Kids, at, at+1) })
			try(place, func(x *impl.Item) { x.Kids = slices.Insert(x.Kids, at, cloned(x.Kids[at])) })
			for other := range at {
				try(place, func(x *impl.Item) { x.Kids[at], x.Kids[other] = x.Kids[other], x.Kids[at] })
			}
		}
		for _, tag := range []int{1, 2, 3, 4, 5, 12, 16, 19, 44, 49, 52} {
			try(place, func(x *impl.Item) { x.Tag = tag })
		}
	}
	return list
}

func TestItemsThatAreNoLetter(t *testing.T) {
	for _, c := range []impl.Cert{someLetter(), bareLetter(), fullLetter()} {
		right := 0
		for _, x := range itemsBeside(letterByHand(t, c)) {
			if checkReadLetter(t, textByLibrary(t, x)) {
				right++
			}
		}
		if right < 20 {
			t.Errorf("%d right: too few", right)
		}
	}
}

func TestNamedItemsThatAreNoLetter(t *testing.T) {
	const serial, issuer, span, subject, key, ca, pathLen, usage, policies, permits, denies = 0, 1, 2, 3, 4, 5, 6, 7, 8, 9, 10
	body := func(x *impl.Item) *impl.Item { return &x.Kids[0] }
	kid := func(x *impl.Item, at int) *impl.Item { return &x.Kids[0].Kids[at] }
	changes := map[string]func(x *impl.Item){
		"the whole, a kid more":         func(x *impl.Item) { x.Kids = append(x.Kids, itemOf(4, "")) },
		"the whole, two Sigs":           func(x *impl.Item) { x.Kids = append(x.Kids, x.Kids[1]) },
		"the whole, a kid less":         func(x *impl.Item) { x.Kids = x.Kids[:1] },
		"the whole, without a body":     func(x *impl.Item) { x.Kids = x.Kids[1:] },
		"the whole, without kids":       func(x *impl.Item) { x.Kids = nil },
		"the whole, the Sig first":      func(x *impl.Item) { slices.Reverse(x.Kids) },
		"the whole in a list":           func(x *impl.Item) { *x = inLists(1, *x) },
		"the whole, of another tag":     func(x *impl.Item) { *x = itemOf(4, textByLibrary(t, *x)) },
		"a body, a kid more":            func(x *impl.Item) { body(x).Kids = append(body(x).Kids, itemOf(48, "")) },
		"a body, a kid less":            func(x *impl.Item) { body(x).Kids = body(x).Kids[:10] },
		"a body, the first kid less":    func(x *impl.Item) { body(x).Kids = body(x).Kids[1:] },
		"a body, without kids":          func(x *impl.Item) { body(x).Kids = nil },
		"a body, of another tag":        func(x *impl.Item) { *body(x) = itemOf(4, textByLibrary(t, *body(x))[2:]) },
		"a Sig as text":                 func(x *impl.Item) { x.Kids[1] = itemOf(12, "fifteen letters") },
		"a Sig, a byte more":            func(x *impl.Item) { x.Kids[1].Text += "\x00" },
		"a Sig, a byte less":            func(x *impl.Item) { x.Kids[1].Text = x.Kids[1].Text[:14] },
		"a text where a number stands":  func(x *impl.Item) { *kid(x, serial) = itemOf(12, "5") },
		"a flag where a number stands":  func(x *impl.Item) { *kid(x, usage) = itemOf(1, "\x00") },
		"a number where a text stands":  func(x *impl.Item) { *kid(x, issuer) = itemOf(2, "a") },
		"bytes where a text stands":     func(x *impl.Item) { kid(x, subject).Tag = 4 },
		"a text where bytes stand":      func(x *impl.Item) { *kid(x, key) = itemOf(12, "fifteen letters") },
		"a number where a flag stands":  func(x *impl.Item) { *kid(x, ca) = itemOf(2, "\x00") },
		"a flag of the byte 1":          func(x *impl.Item) { kid(x, ca).Text = "\x01" },
		"a flag of the byte 254":        func(x *impl.Item) { kid(x, ca).Text = "\xfe" },
		"a flag of two bytes":           func(x *impl.Item) { kid(x, ca).Text = "\xff\xff" },
		"a flag of none":                func(x *impl.Item) { kid(x, ca).Text = "" },
		"a Serial of 10000":             func(x *impl.Item) { *kid(x, serial) = numberItem(t, 10000) },
		"a Serial beyond MaxNumber":     func(x *impl.Item) { kid(x, serial).Text = "\x3b\x9a\xca\x01" },
		"a Serial below 0":              func(x *impl.Item) { kid(x, serial).Text = "\xff" },
		"a Serial, a byte 0 ahead":      func(x *impl.Item) { kid(x, serial).Text = "\x00\x05" },
		"a PathLen of 100":              func(x *impl.Item) { *kid(x, pathLen) = numberItem(t, 100) },
		"a Usage of 8":                  func(x *impl.Item) { *kid(x, usage) = numberItem(t, 8) },
		"times, one more":               func(x *impl.Item) { kid(x, span).Kids = append(kid(x, span).Kids, itemOf(2, "\x00")) },
		"times, one less":               func(x *impl.Item) { kid(x, span).Kids = kid(x, span).Kids[:1] },
		"times, none":                   func(x *impl.Item) { kid(x, span).Kids = nil },
		"times, a text":                 func(x *impl.Item) { kid(x, span).Kids[0] = itemOf(12, "5") },
		"times, a To of 10000":          func(x *impl.Item) { kid(x, span).Kids[1] = numberItem(t, 10000) },
		"times, not in a list":          func(x *impl.Item) { *kid(x, span) = numberItem(t, 5) },
		"times, in two lists":           func(x *impl.Item) { *kid(x, span) = inLists(1, *kid(x, span)) },
		"a key, a byte more":            func(x *impl.Item) { kid(x, key).Text += "\x00" },
		"a key, a byte less":            func(x *impl.Item) { kid(x, key).Text = kid(x, key).Text[1:] },
		"an Issuer of nothing":          func(x *impl.Item) { kid(x, issuer).Text = "" },
		"an Issuer of 21 bytes":         func(x *impl.Item) { kid(x, issuer).Text = strings.Repeat("a", 21) },
		"a Subject that is no name":     func(x *impl.Item) { kid(x, subject).Text = "ca..org" },
		"policies, a text":              func(x *impl.Item) { kid(x, policies).Kids[1] = itemOf(12, "1") },
		"policies, a list":              func(x *impl.Item) { kid(x, policies).Kids[0] = itemOf(48, "") },
		"policies that do not ascend":   func(x *impl.Item) { slices.Reverse(kid(x, policies).Kids) },
		"policies, one twice":           func(x *impl.Item) { kid(x, policies).Kids = times(2, numberItem(t, 1)) },
		"policies, AnyPolicy twice":     func(x *impl.Item) { kid(x, policies).Kids = times(2, numberItem(t, 0)) },
		"policies, one of 100":          func(x *impl.Item) { kid(x, policies).Kids[2] = numberItem(t, 100) },
		"policies, five of them":        func(x *impl.Item) { kid(x, policies).Kids = numberItems(t, 0, 1, 2, 3, 4) },
		"policies as a number":          func(x *impl.Item) { *kid(x, policies) = numberItem(t, 1) },
		"names, a number":               func(x *impl.Item) { kid(x, permits).Kids[1] = itemOf(2, "z") },
		"names, bytes":                  func(x *impl.Item) { kid(x, permits).Kids[0].Tag = 4 },
		"names that do not ascend":      func(x *impl.Item) { slices.Reverse(kid(x, permits).Kids) },
		"names, one twice":              func(x *impl.Item) { kid(x, denies).Kids = times(2, itemOf(12, "a")) },
		"names, five of them":           func(x *impl.Item) { kid(x, denies).Kids = nameItems("a", "b", "c", "d", "e") },
		"names, one of 21 bytes":        func(x *impl.Item) { kid(x, denies).Kids = nameItems(strings.Repeat("a", 21)) },
		"names, an empty one":           func(x *impl.Item) { kid(x, denies).Kids = nameItems("") },
		"names as a text":               func(x *impl.Item) { *kid(x, permits) = itemOf(12, "org") },
		"permits and policies, swapped": func(x *impl.Item) { *kid(x, permits), *kid(x, policies) = *kid(x, policies), *kid(x, permits) },
		"Issuer and Serial, swapped":    func(x *impl.Item) { *kid(x, issuer), *kid(x, serial) = *kid(x, serial), *kid(x, issuer) },
	}
	for name, change := range changes {
		x := letterByHand(t, someLetter())
		change(&x)
		text := textByLibrary(t, x)
		if got, ok := impl.ReadCert(text); ok || !sameLetter(got, impl.Cert{}) {
			t.Errorf("%s: ReadCert = %#v %v, want a whole refusal", name, got, ok)
		}
		checkNoLetter(t, text)
	}
	// The edges that are met, in the same way.
	for name, change := range map[string]func(x *impl.Item){
		"nothing":          func(x *impl.Item) {},
		"a Serial of 9999": func(x *impl.Item) { *kid(x, serial) = numberItem(t, 9999) },
		"a To of 9999":     func(x *impl.Item) { kid(x, span).Kids[1] = numberItem(t, 9999) },
		"a PathLen of 99":  func(x *impl.Item) { *kid(x, pathLen) = numberItem(t, 99) },
		"a PathLen of 0":   func(x *impl.Item) { *kid(x, pathLen) = numberItem(t, 0) },
		"a Usage of 7":     func(x *impl.Item) { *kid(x, usage) = numberItem(t, 7) },
		"four policies":    func(x *impl.Item) { kid(x, policies).Kids = numberItems(t, 0, 1, 2, 3) },
		"no policies":      func(x *impl.Item) { kid(x, policies).Kids = nil },
		"four names":       func(x *impl.Item) { kid(x, denies).Kids = nameItems("a", "b", "c", "d") },
		"no names":         func(x *impl.Item) { kid(x, permits).Kids, kid(x, denies).Kids = nil, nil },
		"20 bytes":         func(x *impl.Item) { kid(x, issuer).Text = strings.Repeat("a", 20) },
		"a flag of 0":      func(x *impl.Item) { kid(x, ca).Text = "\x00" },
	} {
		x := letterByHand(t, someLetter())
		change(&x)
		if !checkReadLetter(t, textByLibrary(t, x)) {
			t.Errorf("%s: no letter", name)
		}
	}
}

func numberItems(t *testing.T, list ...int) []impl.Item {
	t.Helper()
	items := []impl.Item{}
	for _, n := range list {
		items = append(items, numberItem(t, n))
	}
	return items
}

func nameItems(list ...string) []impl.Item {
	items := []impl.Item{}
	for _, name := range list {
		items = append(items, itemOf(12, name))
	}
	return items
}

func memoryOf[T any](list []T) stretch {
	from := uintptr(unsafe.Pointer(unsafe.SliceData(list)))
	var one T
	return stretch{from, from + uintptr(cap(list))*unsafe.Sizeof(one)}
}

// letterMemory: where the lists of a letter lie, with the room behind them.
func letterMemory(c impl.Cert) []stretch {
	return []stretch{memoryOf(c.Policies), memoryOf(c.Permits), memoryOf(c.Denies)}
}

func letterTexts(c impl.Cert) []string {
	return slices.Concat([]string{c.Issuer, c.Subject, c.Key, c.Sig}, c.Permits, c.Denies)
}

func checkOwnLetter(t *testing.T, name string, answer impl.Cert, handed ...impl.Cert) {
	t.Helper()
	own := letterMemory(answer)
	for i, one := range own {
		if slices.ContainsFunc(own[:i], one.meets) {
			t.Fatalf("%s: two lists of one answer share memory", name)
		}
		for _, c := range handed {
			if slices.ContainsFunc(letterMemory(c), one.meets) {
				t.Fatalf("%s: a list shares memory with an argument", name)
			}
		}
	}
	for _, one := range letterTexts(answer) {
		for _, c := range handed {
			if slices.ContainsFunc(letterTexts(c), func(other string) bool { return shares(one, other) }) {
				t.Fatalf("%s: a text shares memory with an argument", name)
			}
		}
	}
}

func spoilLetter(c impl.Cert) {
	spoil(c.Policies)
	for _, list := range [][]string{c.Permits, c.Denies} {
		for i := range list[:cap(list)] {
			list[:cap(list)][i] = "spoilt"
		}
	}
}

// itemWithTexts: an item with the texts of a letter, to hold another one's memory against them.
func itemWithTexts(c impl.Cert) impl.Item {
	return itemOf(48, "", nameItems(letterTexts(c)...)...)
}

func TestLettersAreNewMemory(t *testing.T) {
	one := []string{"a.org", "b.org", "c.org"}
	source := rand.New(rand.NewSource(94))
	letters := []impl.Cert{someLetter(), bareLetter(), fullLetter(), changed(someLetter(), func(c *impl.Cert) { c.Policies = []int{5, 4, 3, 2, 1} })}
	for range 100 {
		letters = append(letters, drawnLetter(source))
	}
	for _, c := range letters {
		// One list in two places, and one that goes on where another ends.
		for _, c := range []impl.Cert{c, changed(c, func(c *impl.Cert) { c.Permits, c.Denies = one, one }), changed(c, func(c *impl.Cert) { c.Permits, c.Denies = one[:1], one[1:] })} {
			want := changed(c, func(c *impl.Cert) { c.Permits, c.Denies = slices.Clone(c.Permits), slices.Clone(c.Denies) })
			first, second := impl.Signed(c, 2), impl.Signed(c, 2)
			kept := changed(second, func(*impl.Cert) {})
			checkOwnLetter(t, "Signed", first, c, second)
			spoilLetter(first)
			if !sameLetter(c, want) || !sameLetter(second, kept) || !sameLetter(impl.Signed(c, 2), kept) {
				t.Fatalf("Signed(%#v) hands out what it keeps, or its argument", c)
			}
			body := impl.BodyItem(c)
			checkOwnMemory(t, "BodyItem", body, itemWithTexts(c))
			for _, x := range slices.Backward(allOf(&body)) {
				for i := range x.Kids[:cap(x.Kids)] {
					x.Kids[:cap(x.Kids)][i] = itemOf(-5, "spoilt")
				}
			}
			if !sameLetter(c, want) || !alike(impl.BodyItem(c), bodyByHand(t, want)) {
				t.Fatalf("BodyItem(%#v) hands out what it keeps, or its argument", c)
			}
			checkReadIsNew(t, c)
		}
	}
}

func checkReadIsNew(t *testing.T, c impl.Cert) {
	t.Helper()
	text, ok := impl.CertText(c)
	if !ok {
		return
	}
	for _, other := range letterTexts(c) {
		if shares(text, other) || shares(impl.BodyText(c), other) {
			t.Fatal("CertText or BodyText hands out a piece of its argument")
		}
	}
	first, _ := impl.ReadCert(text)
	second, _ := impl.ReadCert(text)
	checkOwnLetter(t, "ReadCert", first, second, impl.Cert{Key: text})
	spoilLetter(first)
	if third, _ := impl.ReadCert(text); !sameLetter(second, c) || !sameLetter(third, c) {
		t.Fatalf("ReadCert(%q) hands out one memory twice", text)
	}
}
