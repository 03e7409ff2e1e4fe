package tests

import (
	"math"
	"math/rand"
	"regexp"
	"slices"
	"strings"
	"testing"

	"loop.example/g00394/impl"
)

func TestNameConstants(t *testing.T) {
	if impl.AnyPolicy != 0 {
		t.Errorf("AnyPolicy %d", impl.AnyPolicy)
	}
}

var nameForm = regexp.MustCompile(`\A[a-z]+([.][a-z]+)*\z`)

func nameByLibrary(s string) bool {
	return len(s) <= 20 && nameForm.MatchString(s)
}

func checkName(t *testing.T, s string, want bool) {
	t.Helper()
	if byLibrary := nameByLibrary(s); byLibrary != want {
		t.Fatalf("%q: the case is none, the library tells %v", s, byLibrary)
	}
	if got := impl.NameOk(s); got != want {
		t.Fatalf("NameOk(%q) = %v, want %v", s, got, want)
	}
}

func rightNames() []string {
	return []string{
		"a", "z", "m", "az", "za", "org", "borg", "a.b", "a.org", "b.a.org", "aa.org", "root", "a.b.c.d.e.f.g.h.i.j",
		"abcdefghijklmnopqrst", "ghijklmnopqrstuvwxyz", "a.cdefghijklmnopqrst", "abcdefghijklmnopqr.t", "a.c.e.g.i.k.m.o.q.st",
	}
}

func wrongNames() []string {
	return []string{
		"", ".", "..", "...", ".a", "a.", ".a.", "a..b", "a...b", "..a", "a..", "a.b..c", "a.b.", ".a.b",
		"A", "aA", "Aa", "a.B", "ORG", "0", "9", "a1", "1a", "a.1", "a.1b", " ", " a", "a ", "a b", "a. b", "a .b",
		"-", "a-b", "_", "a_b", "*", "*.a", "a.*", "`", "{", "a`", "a{", "/", "a/b", "a,b", "a:b", "\x00", "a\x00", "\x00a", "a\n", "\na", "a\nb", "a\x7f",
		"\x80", "\xff", "a\xff", "\xffa", "a.\xff", "\xff.a", "a\x80b", "\xc3", "a\xc3", "\xc3a", "\xe1", "\xe1.a", "\xfa",
		"\u00e4", "a\u00e4", "\u00e4.a", "a.\u00e4", "\u00df", "\u0430", "\uff41", "\uff0e", "a\uff0eb", "a\u3002b", "\ufffd", "a\ufffd", "\U0001d41a",
		// Runes whose lowest byte is a letter or a dot.
		"\u0161", "a\u0161", "\u017a", "\u0261", "a\u012eb", "\u4e2e", "\U00010061", "\U0001002e",
		// A letter and a dot in more bytes than they have.
		"\xc1\xa1", "\xe0\x81\xa1", "a\xc0\xaeb",
		strings.Repeat(".", 20), strings.Repeat("a.", 10), strings.Repeat(".a", 10), strings.Repeat("\xff", 20),
		"abcdefghijklmnopqrs.", ".bcdefghijklmnopqrst", "abcdefghijklmnopqrsT", "Abcdefghijklmnopqrst", "abcdefghijklmnopqrs\xff",
		// One byte too many, and many.
		"abcdefghijklmnopqrstu", "a.cdefghijklmnopqrstu", "abcdefghijklmnopqrs.u", "a.b.c.d.e.f.g.h.i.j.k", "abcdefghijklmnopqrst.", ".bcdefghijklmnopqrstu",
		strings.Repeat("a", 22), strings.Repeat("a", 255), strings.Repeat("a", 256), strings.Repeat("a", 257), strings.Repeat("a", 276), strings.Repeat("a", 65537), strings.Repeat("a.b", 1000),
		// Few runes, many bytes.
		strings.Repeat("\u00e4", 11), strings.Repeat("\u00e4", 20),
	}
}

func TestNameOk(t *testing.T) {
	for _, s := range rightNames() {
		checkName(t, s, true)
	}
	for _, s := range wrongNames() {
		checkName(t, s, false)
	}
}

func TestNameSizes(t *testing.T) {
	for size := range 70 {
		checkName(t, strings.Repeat("a", size), size >= 1 && size <= 20)
		// Of two parts, wherever the dot stands: both need a letter.
		for at := range size {
			dotted := strings.Repeat("a", at) + "." + strings.Repeat("z", size-at-1)
			checkName(t, dotted, size <= 20 && at > 0 && at < size-1)
		}
	}
}

func TestNameBytes(t *testing.T) {
	for b := range 256 {
		letter := b >= 'a' && b <= 'z'
		checkName(t, string([]byte{byte(b)}), letter)
		for _, name := range []string{"some", "ab.cd", "a.b.c", "abcdefghijklmnopqrst"} {
			for at := range name {
				bytes := []byte(name)
				bytes[at] = byte(b)
				inside := at > 0 && at < len(name)-1 && name[at-1] != '.' && name[at+1] != '.'
				checkName(t, string(bytes), letter || b == '.' && inside)
			}
		}
	}
}

// TestNameRunes: no rune beside the letters and the dot is one of them, alone or within a name.
func TestNameRunes(t *testing.T) {
	for r := range rune(0x30000) {
		letter := r >= 'a' && r <= 'z'
		if got := impl.NameOk(string(r)); got != letter {
			t.Fatalf("NameOk of the rune %x is %v", r, got)
		}
		if got := impl.NameOk("a" + string(r) + "b"); got != (letter || r == '.') {
			t.Fatalf("NameOk of the rune %x between letters is %v", r, got)
		}
	}
}

func TestNameOkOfAllShortTexts(t *testing.T) {
	allTexts([]byte{'a', 'z', '.', 'A', '0', ' ', 0x80, 0xc3, 0xff}, 5, func(text string) {
		checkName(t, text, nameByLibrary(text))
	})
}

// underByCuts: whether some beginning of name, which may be nothing, and a dot and top make name.
func underByCuts(name, top string) bool {
	if top == "" || name == top {
		return true
	}
	for end := range len(name) {
		if end+1+len(top) == len(name) && name[:end]+"."+top == name {
			return true
		}
	}
	return false
}

// underByParts is for right names: the parts of top are the last ones of name.
func underByParts(name, top string) bool {
	parts, last := strings.Split(name, "."), strings.Split(top, ".")
	return len(last) <= len(parts) && slices.Equal(parts[len(parts)-len(last):], last)
}

func checkUnder(t *testing.T, name, top string, want bool) {
	t.Helper()
	if byCuts := underByCuts(name, top); byCuts != want {
		t.Fatalf("%q under %q: the case is none, by its cuts it is %v", name, top, byCuts)
	}
	if got := impl.Under(name, top); got != want {
		t.Fatalf("Under(%q, %q) = %v, want %v", name, top, got, want)
	}
}

func TestUnder(t *testing.T) {
	for _, pair := range [][2]string{
		{"a.org", "org"}, {"b.a.org", "org"}, {"b.a.org", "a.org"}, {"a.a", "a"}, {"a.a.a", "a.a"}, {"aa.a", "a"}, {"org.org", "org"}, {"a.b.c.d", "b.c.d"},
		// Of any texts: they need not be right.
		{".org", "org"}, {"..org", "org"}, {"..org", ".org"}, {"a..org", "org"}, {"a..org", ".org"}, {".", "."}, {"..", "."}, {"...", ".."}, {"A.ORG", "ORG"}, {"1.2", "2"}, {"a. ", " "},
		{"a.org.", "org."}, {"\xff.\xfe", "\xfe"}, {"a.\xc3\xa4", "\xc3\xa4"}, {"\x00.\x00", "\x00"}, {"a.\xa4", "\xa4"}, {strings.Repeat("a.", 3000) + "b", "b"},
		{strings.Repeat("b.", 3000) + "b", strings.Repeat("b.", 2999) + "b"},
	} {
		checkUnder(t, pair[0], pair[1], true)
	}
	for _, pair := range [][2]string{
		// They only end alike, or begin alike.
		{"borg", "org"}, {"aorg", "org"}, {"b.aorg", "org"}, {"a.borg", "org"}, {"aa", "a"}, {"xa.org", "a.org"}, {"b.xa.org", "a.org"}, {"a_org", "org"}, {"a org", "org"}, {"a/org", "org"}, {"a-org", "org"}, {"\x00org", "org"},
		{"org.a", "org"}, {"a.org.b", "org"}, {"a.org.b", "a.org"}, {"orga", "org"}, {"org.", "org"}, {"a.org.", "org"}, {"org..", "org"},
		// The top is longer, or as long.
		{"org", "a.org"}, {"org", "borg"}, {"org", ".org"}, {"a.org", "b.a.org"}, {"a", "a.a"}, {"a", "aa"}, {"", "a"}, {"", "."}, {"", "org"}, {".", ".."}, {".", "a"}, {"org", "orh"}, {"a.org", "b.org"}, {"a.org", "a.orh"}, {"a", "b"},
		// A dot of top is no dot ahead of it.
		{"a.org", ".org"}, {"b.a.org", ".a.org"}, {"a.", "."}, {"a..", ".."},
		// Letters are as they are.
		{"a.ORG", "org"}, {"a.org", "ORG"}, {"ORG", "org"}, {"a.Org", "org"}, {"a.b.c", "a.c"}, {"a.b.c", "a.b"}, {"a.b.c", "b"},
		// A byte that is no right rune is itself alone.
		{"\xff", "\xfe"}, {"a.\xff", "\xfe"}, {"a.\xff", "\ufffd"}, {"a.\ufffd", "\xff"}, {"\xff.a", "\xfe.a"}, {"\xc3\xa4", "\xa4"}, {"a\xae", "\xae"}, {"a\uff0eorg", "org"}, {"\u4e2eorg", "org"}, {"a\xc0\xaeorg", "org"},
	} {
		checkUnder(t, pair[0], pair[1], false)
	}
}

func TestUnderItselfAndUnderNothing(t *testing.T) {
	for _, name := range slices.Concat(rightNames(), wrongNames(), textsToTry()) {
		checkUnder(t, name, name, true)
		checkUnder(t, name, "", true)
		checkUnder(t, "some."+name, name, true)
		checkUnder(t, "."+name, name, true)
		if name != "" {
			checkUnder(t, "", name, false)
			checkUnder(t, name, "some."+name, false)
			checkUnder(t, name, "."+name, false)
			checkUnder(t, "x"+name, name, strings.HasSuffix("x"+name, "."+name))
		}
	}
}

func TestUnderOfAllShortTexts(t *testing.T) {
	texts := []string{}
	allTexts([]byte("ab."), 4, func(text string) { texts = append(texts, text) })
	allTexts([]byte{'.', 0xc3, 0xfe, 0xff}, 3, func(text string) { texts = append(texts, text) })
	for _, name := range texts {
		for _, top := range texts {
			checkUnder(t, name, top, underByCuts(name, top))
			if nameByLibrary(name) && nameByLibrary(top) && impl.Under(name, top) != underByParts(name, top) {
				t.Fatalf("Under(%q, %q) = %v, by its parts it is not", name, top, impl.Under(name, top))
			}
		}
	}
}

// checkAllAbove: promise 8, of all of these: who is under one is under all above it.
func checkAllAbove(t *testing.T, names []string) {
	t.Helper()
	under := func(name string) []string {
		below := []string{}
		for _, one := range names {
			if impl.Under(one, name) {
				below = append(below, one)
			}
		}
		return below
	}
	for _, top := range names {
		for _, one := range under(top) {
			for _, two := range under(one) {
				if !impl.Under(two, top) {
					t.Fatalf("%q is under %q, which is under %q, but it is not under that", two, one, top)
				}
				if impl.Under(top, two) && top != two && top != "" && two != "" {
					t.Fatalf("%q and %q are under each other", two, top)
				}
			}
		}
	}
}

func TestUnderOneUnderAllAbove(t *testing.T) {
	texts := []string{}
	allTexts([]byte("ab."), 4, func(text string) { texts = append(texts, text) })
	checkAllAbove(t, texts)
	checkAllAbove(t, slices.Concat(rightNames(), wrongNames()))
}

// drawnName: a right name, of parts of which many are alike.
func drawnName(source *rand.Rand) string {
	parts := []string{"a", "b", "aa", "ba", "org"}
	name := parts[source.Intn(len(parts))]
	for source.Intn(4) > 0 {
		longer := parts[source.Intn(len(parts))] + "." + name
		if len(longer) > 20 {
			break
		}
		name = longer
	}
	return name
}

func TestDrawnNames(t *testing.T) {
	source := rand.New(rand.NewSource(8))
	names := []string{}
	for range 400 {
		names = append(names, drawnName(source))
	}
	for _, name := range names {
		checkName(t, name, true)
		parts := strings.Split(name, ".")
		for i := range parts {
			checkUnder(t, name, strings.Join(parts[i:], "."), true)
			// Half a part is no name above.
			cut := strings.Join(parts[i:], ".")[1:]
			checkUnder(t, name, cut, cut == "" || underByParts(name, cut))
		}
		for _, other := range names {
			checkUnder(t, name, other, underByParts(name, other))
		}
	}
	checkAllAbove(t, names[:200])
}

// guardedNames: the list with room behind it, and whether list and room are still as they were.
func guardedNames(list []string) ([]string, func() bool) {
	room := append(slices.Clone(list), "behind", "behind", "behind")
	before := slices.Clone(room)
	return room[:len(list)], func() bool { return slices.Equal(room, before) }
}

func namesByLibrary(list []string) bool {
	alone := slices.Compact(slices.Sorted(slices.Values(list)))
	return len(list) <= 4 && slices.Equal(alone, list) && !slices.ContainsFunc(list, func(name string) bool { return !nameByLibrary(name) })
}

func checkNames(t *testing.T, list []string, want bool) {
	t.Helper()
	if byLibrary := namesByLibrary(list); byLibrary != want {
		t.Fatalf("%q: the case is none, the library tells %v", list, byLibrary)
	}
	handed, untouched := guardedNames(list)
	if got := impl.NamesOk(handed); got != want || !untouched() {
		t.Fatalf("NamesOk(%q) = %v, want %v; untouched: %v", list, got, want, untouched())
	}
}

func TestNamesOk(t *testing.T) {
	if !impl.NamesOk(nil) {
		t.Error("NamesOk of nil is false")
	}
	for _, list := range [][]string{
		{}, {"a"}, {"a", "b"}, {"a", "b", "c", "d"}, {"a", "a.a", "aa", "ab"}, {"a", "aa", "aaa", "aaaa"}, {"a.z", "aa"}, {"b", "ba"}, {"abcdefghijklmnopqrst", "b"}, {"a", "zbcdefghijklmnopqrst"},
		{"a.org", "b.org", "org"},
	} {
		checkNames(t, list, true)
	}
	for _, list := range [][]string{
		{""}, {"", "a"}, {"a", ""}, {"b", "a"}, {"a", "a"}, {"a", "b", "b"}, {"a", "a", "b"}, {"a", "b", "a"}, {"b", "a", "c"}, {"a", "c", "b", "d"}, {"a", "b", "d", "c"}, {"a", "b", "c", "c"},
		{"aa", "a"}, {"a.a", "a"}, {"aa", "a.a"}, {"a", "b", "c", "d", "e"}, {"a", "b", "c", "d", "d"}, {"a", "b", "c", "d", ""}, {"a", "b", "c", "d", "e", "f"}, {"A", "a"}, {"a", "b\xff"},
		{"a", "abcdefghijklmnopqrstu"}, {"abcdefghijklmnopqrstu", "b"}, {"a", "b", "c", "d."}, {".a", "a"}, {"a", "a..b"},
	} {
		checkNames(t, list, false)
	}
	for _, name := range rightNames() {
		checkNames(t, []string{name}, true)
	}
	for _, name := range wrongNames() {
		checkNames(t, []string{name}, false)
		// Among right ones, where it would stand in order.
		for _, others := range [][]string{{"a"}, {"z"}, {"b", "m"}, {"b", "c", "y"}} {
			checkNames(t, slices.Sorted(slices.Values(append(others, name))), false)
		}
	}
}

// allLists: every list of at most so many of these, and of any order.
func allLists[T any](of []T, size int, each func(list []T)) {
	var from func(list []T)
	from = func(list []T) {
		each(list)
		if len(list) == size {
			return
		}
		for _, one := range of {
			from(append(slices.Clone(list), one))
		}
	}
	from([]T{})
}

func TestNamesOkOfAllShortLists(t *testing.T) {
	allLists([]string{"a", "a.b", "aa", "b", "c", "z", "", "a."}, 5, func(list []string) {
		checkNames(t, list, namesByLibrary(list))
	})
}

func TestNamesOkOfManyNames(t *testing.T) {
	names := strings.Split("abcdefghijklmnopqrstuvwxyz", "")
	for size := range len(names) + 1 {
		checkNames(t, names[:size], size <= 4)
	}
}

func policiesByLibrary(list []int) bool {
	alone := slices.Compact(slices.Sorted(slices.Values(list)))
	return len(list) <= 4 && slices.Equal(alone, list) && !slices.ContainsFunc(list, func(n int) bool { return n < 0 || n > 99 })
}

func checkPolicies(t *testing.T, list []int, want bool) {
	t.Helper()
	if byLibrary := policiesByLibrary(list); byLibrary != want {
		t.Fatalf("%d: the case is none, the library tells %v", list, byLibrary)
	}
	handed, untouched := guarded(list)
	if got := impl.PoliciesOk(handed); got != want || !untouched() {
		t.Fatalf("PoliciesOk(%d) = %v, want %v; untouched: %v", list, got, want, untouched())
	}
}

func TestPoliciesOk(t *testing.T) {
	if !impl.PoliciesOk(nil) {
		t.Error("PoliciesOk of nil is false")
	}
	for _, list := range [][]int{{}, {0}, {99}, {0, 99}, {0, 1, 2, 3}, {96, 97, 98, 99}, {0, 5}, {1, 50, 98, 99}} {
		checkPolicies(t, list, true)
	}
	for _, list := range [][]int{
		{-1}, {100}, {-1, 0}, {99, 100}, {0, 100}, {0, 0}, {5, 0}, {99, 99}, {1, 2, 2}, {1, 1, 2}, {1, 2, 1}, {2, 1, 3}, {0, 1, 3, 2}, {0, 1, 2, 2}, {0, 1, 2, 100}, {-1, 0, 1, 2},
		{0, 1, 2, 3, 4}, {0, 1, 2, 3, 3}, {1, 2, 3, 4, 5}, {0, 1, 2, 3, 4, 5}, {0, 0, 0, 0, 0}, {101}, {256}, {1 << 32}, {1<<32 + 5}, {math.MaxInt}, {math.MinInt}, {math.MinInt, 0}, {0, math.MaxInt}, {0, 1, 2, -1},
	} {
		checkPolicies(t, list, false)
	}
	for n := -300; n <= 600; n++ {
		checkPolicies(t, []int{n}, n >= 0 && n <= 99)
	}
	many := []int{}
	for n := range 100 {
		checkPolicies(t, many, n <= 4)
		many = append(many, n)
	}
}

func TestPoliciesOkOfAllShortLists(t *testing.T) {
	allLists([]int{-1, 0, 1, 2, 50, 98, 99, 100}, 5, func(list []int) {
		checkPolicies(t, list, policiesByLibrary(list))
	})
}

// joinByOne asks of each rule alone whether it stays.
func joinByOne(now []int, any bool, cert []int) ([]int, bool) {
	all := slices.Contains(cert, 0)
	stays := []int{}
	for _, rule := range slices.Compact(slices.Sorted(slices.Values(slices.Concat(now, cert)))) {
		before, told := slices.Contains(now, rule), slices.Contains(cert, rule)
		if all && before || !all && told && (any || before) {
			stays = append(stays, rule)
		}
	}
	return stays, all && any
}

func checkJoin(t *testing.T, now []int, any bool, cert, want []int, wantAny bool) {
	t.Helper()
	if byOne, byOneAny := joinByOne(now, any, cert); !slices.Equal(byOne, want) || byOneAny != wantAny {
		t.Fatalf("%d, %v, %d: the case is none, rule by rule it is %d, %v", now, any, cert, byOne, byOneAny)
	}
	handedNow, nowUntouched := guarded(now)
	handedCert, certUntouched := guarded(cert)
	got, gotAny := impl.JoinPolicies(handedNow, any, handedCert)
	if !slices.Equal(got, want) || gotAny != wantAny {
		t.Fatalf("JoinPolicies(%d, %v, %d) = %d, %v, want %d, %v", now, any, cert, got, gotAny, want, wantAny)
	}
	spoil(got)
	if !nowUntouched() || !certUntouched() {
		t.Fatalf("JoinPolicies(%d, %v, %d) writes to a list, or hands it out", now, any, cert)
	}
}

func TestJoinPolicies(t *testing.T) {
	// With AnyPolicy: all of now, and any.
	checkJoin(t, nil, true, []int{0}, nil, true)
	checkJoin(t, nil, false, []int{0}, nil, false)
	checkJoin(t, []int{1, 2}, false, []int{0}, []int{1, 2}, false)
	checkJoin(t, []int{1, 2}, false, []int{0, 3}, []int{1, 2}, false)
	checkJoin(t, []int{1, 2}, false, []int{0, 2, 3}, []int{1, 2}, false)
	checkJoin(t, nil, true, []int{0, 3}, nil, true)
	checkJoin(t, []int{1, 2}, true, []int{0, 3}, []int{1, 2}, true)
	checkJoin(t, []int{0, 5}, false, []int{0}, []int{0, 5}, false)
	// Without it, with any: those of cert.
	checkJoin(t, nil, true, []int{1, 2}, []int{1, 2}, false)
	checkJoin(t, []int{2, 3}, true, []int{1, 2}, []int{1, 2}, false)
	checkJoin(t, []int{0}, true, []int{99}, []int{99}, false)
	checkJoin(t, nil, true, nil, nil, false)
	checkJoin(t, []int{1}, true, nil, nil, false)
	// Without both: those of both.
	checkJoin(t, []int{1, 2}, false, []int{2, 3}, []int{2}, false)
	checkJoin(t, []int{1, 2, 50, 99}, false, []int{1, 2, 50, 99}, []int{1, 2, 50, 99}, false)
	checkJoin(t, []int{1, 3}, false, []int{2, 4}, nil, false)
	checkJoin(t, []int{1, 3}, false, nil, nil, false)
	checkJoin(t, nil, false, []int{1, 3}, nil, false)
	checkJoin(t, nil, false, nil, nil, false)
	// An AnyPolicy of now is a rule like others.
	checkJoin(t, []int{0, 5}, false, []int{5, 6}, []int{5}, false)
	checkJoin(t, []int{0}, false, []int{5, 6}, nil, false)
}

// TestJoinPoliciesAscending: of lists that are not in order, hold one twice or what is no rule, what stays is ascending.
func TestJoinPoliciesAscending(t *testing.T) {
	checkJoin(t, []int{3, 1, 2}, false, []int{0}, []int{1, 2, 3}, false)
	checkJoin(t, []int{2, 2, 1, 2}, true, []int{5, 0}, []int{1, 2}, true)
	checkJoin(t, nil, true, []int{3, 1, 3}, []int{1, 3}, false)
	checkJoin(t, []int{9, 7, 7, 8}, false, []int{8, 9, 9, 1}, []int{8, 9}, false)
	checkJoin(t, []int{100, -1, 4}, false, []int{4, -1, 100}, []int{-1, 4, 100}, false)
	checkJoin(t, []int{math.MaxInt, math.MinInt}, false, []int{math.MinInt, math.MaxInt}, []int{math.MinInt, math.MaxInt}, false)
	checkJoin(t, []int{1, 2, 3, 4, 5, 6}, false, []int{6, 5, 4, 3, 2, 1}, []int{1, 2, 3, 4, 5, 6}, false)
}

func TestJoinPoliciesOfAllShortLists(t *testing.T) {
	lists := [][]int{}
	allLists([]int{0, 1, 2, 99}, 3, func(list []int) { lists = append(lists, list) })
	for _, now := range lists {
		for _, cert := range lists {
			for _, any := range []bool{false, true} {
				want, wantAny := joinByOne(now, any, cert)
				checkJoin(t, now, any, cert, want, wantAny)
			}
		}
	}
}

func rightPolicies() [][]int {
	lists := [][]int{}
	allLists([]int{0, 1, 2, 3, 99}, 4, func(list []int) {
		if policiesByLibrary(list) {
			lists = append(lists, list)
		}
	})
	return lists
}

// checkBehind: behind several letters stays what each of those without AnyPolicy tells; any stays when there is none such.
func checkBehind(t *testing.T, letters [][]int) {
	t.Helper()
	now, any := []int{}, true
	want, wantAny := []int{}, true
	for _, cert := range letters {
		now, any = impl.JoinPolicies(now, any, cert)
	}
	for rule := range 100 {
		stays := false
		for _, cert := range letters {
			if slices.Contains(cert, 0) {
				continue
			}
			wantAny = false
			if stays = slices.Contains(cert, rule); !stays {
				break
			}
		}
		if stays {
			want = append(want, rule)
		}
	}
	if !slices.Equal(now, want) || any != wantAny || !impl.PoliciesOk(now) {
		t.Fatalf("behind %d: %d, %v, want %d, %v", letters, now, any, want, wantAny)
	}
}

func TestPoliciesBehindSeveralLetters(t *testing.T) {
	checkBehind(t, nil)
	checkBehind(t, [][]int{{0}, {0, 1}, {0, 99}})
	checkBehind(t, [][]int{{0}, {1, 2, 3}, {0}, {2, 3, 99}, {0, 7}})
	checkBehind(t, [][]int{{1}, {0}, {2}})
	checkBehind(t, [][]int{{1}, {}, {0}})
	lists := rightPolicies()
	for _, one := range lists {
		checkBehind(t, [][]int{one})
		for _, two := range lists {
			checkBehind(t, [][]int{one, two})
			for _, three := range lists {
				checkBehind(t, [][]int{one, two, three})
			}
		}
	}
	source := rand.New(rand.NewSource(88))
	for range 2000 {
		letters := [][]int{}
		for range 4 + source.Intn(3) {
			letters = append(letters, lists[source.Intn(len(lists))])
		}
		checkBehind(t, letters)
	}
}

func TestJoinPoliciesOfLongLists(t *testing.T) {
	now, cert, want := []int{}, []int{}, []int{}
	for n := range 100000 {
		now, cert = append(now, 2*n+2), append(cert, 3*n+3)
		if 6*n+6 <= 200000 {
			want = append(want, 6*n+6)
		}
	}
	got, any := impl.JoinPolicies(now, false, cert)
	if !slices.Equal(got, want) || any {
		t.Errorf("of two lists of 100000 %d stay, want %d", len(got), len(want))
	}
}

func TestJoinPoliciesAnswersAreNewMemory(t *testing.T) {
	list := []int{1, 2, 3}
	for _, any := range []bool{false, true} {
		for _, cert := range [][]int{list, {0}, {1, 2, 3, 4}} {
			first, _ := impl.JoinPolicies(list, any, cert)
			want := slices.Clone(first)
			spoil(first)
			if again, _ := impl.JoinPolicies(list, any, cert); !slices.Equal(list, []int{1, 2, 3}) || !slices.Equal(again, want) {
				t.Errorf("JoinPolicies of %v, %d hands out what it keeps, or its argument", any, cert)
			}
		}
	}
}

func allowedByCuts(name string, permits, denies []string) bool {
	under := func(top string) bool { return underByCuts(name, top) }
	return (len(permits) == 0 || slices.ContainsFunc(permits, under)) && !slices.ContainsFunc(denies, under)
}

func checkAllowed(t *testing.T, name string, permits, denies []string, want bool) {
	t.Helper()
	if byCuts := allowedByCuts(name, permits, denies); byCuts != want {
		t.Fatalf("%q, %q, %q: the case is none, by its cuts it is %v", name, permits, denies, byCuts)
	}
	handedPermits, permitsUntouched := guardedNames(permits)
	handedDenies, deniesUntouched := guardedNames(denies)
	if got := impl.Allowed(name, handedPermits, handedDenies); got != want {
		t.Fatalf("Allowed(%q, %q, %q) = %v, want %v", name, permits, denies, got, want)
	}
	if !permitsUntouched() || !deniesUntouched() {
		t.Fatalf("Allowed(%q, %q, %q) writes to a list", name, permits, denies)
	}
}

func TestAllowed(t *testing.T) {
	if !impl.Allowed("a.org", nil, nil) || !impl.Allowed("a.org", []string{}, []string{}) || !impl.Allowed("", nil, nil) {
		t.Error("without permits and denies a name is not allowed")
	}
	org, com := []string{"org"}, []string{"com"}
	checkAllowed(t, "a.org", org, nil, true)
	checkAllowed(t, "org", org, nil, true)
	checkAllowed(t, "a.org", []string{"com", "org"}, nil, true)
	checkAllowed(t, "a.org", []string{"org", "zone"}, com, true)
	checkAllowed(t, "a.org", nil, com, true)
	checkAllowed(t, "a.org", org, []string{"b.org"}, true)
	checkAllowed(t, "a.org", org, []string{"b.a.org"}, true)
	checkAllowed(t, "a.org", []string{""}, nil, true)
	// Not permitted.
	checkAllowed(t, "a.org", com, nil, false)
	checkAllowed(t, "org", []string{"a.org"}, nil, false)
	checkAllowed(t, "a.org", []string{"b.org", "com"}, nil, false)
	checkAllowed(t, "a.org", com, com, false)
	// Denied, though permitted.
	checkAllowed(t, "a.org", org, org, false)
	checkAllowed(t, "a.org", org, []string{"a.org"}, false)
	checkAllowed(t, "b.a.org", org, []string{"a.org"}, false)
	checkAllowed(t, "a.org", []string{"a.org"}, org, false)
	checkAllowed(t, "a.org", org, []string{"com", "net", "org"}, false)
	checkAllowed(t, "a.org", org, []string{"a.org", "com"}, false)
	checkAllowed(t, "a.org", org, []string{""}, false)
	checkAllowed(t, "a.org", nil, org, false)
	checkAllowed(t, "a.org", nil, []string{"a.org"}, false)
	checkAllowed(t, "", nil, []string{""}, false)
	// They only end alike.
	checkAllowed(t, "borg", org, nil, false)
	checkAllowed(t, "borg", nil, org, true)
	checkAllowed(t, "a.borg", org, nil, false)
	checkAllowed(t, "a.borg", nil, org, true)
	// Of any texts and lists: they need not be right.
	checkAllowed(t, "A.ORG", []string{"ORG"}, org, true)
	checkAllowed(t, "", org, nil, false)
	checkAllowed(t, "", []string{""}, nil, true)
	checkAllowed(t, "a.org", []string{"z", "org", "org", "a"}, []string{"y", "x", "w", "v", "u"}, true)
	checkAllowed(t, "a.org", []string{"z", "y", "x", "w", "v", "org"}, nil, true)
	checkAllowed(t, "a.org", nil, []string{"z", "y", "x", "w", "v", "org"}, false)
}

func TestAllowedOfAllShortLists(t *testing.T) {
	names := []string{"", "org", "a.org", "b.a.org", "borg", "c"}
	lists := [][]string{}
	allLists(names, 2, func(list []string) { lists = append(lists, list) })
	for _, permits := range lists {
		for _, denies := range lists {
			for _, name := range names {
				checkAllowed(t, name, permits, denies, allowedByCuts(name, permits, denies))
			}
		}
	}
}

// TestAllowedBelow: who is under one that is permitted is permitted, and denied under one that is denied.
func TestAllowedBelow(t *testing.T) {
	source := rand.New(rand.NewSource(80))
	some := func() []string {
		list := []string{}
		for range source.Intn(5) {
			list = append(list, drawnName(source))
		}
		return slices.Compact(slices.Sorted(slices.Values(list)))
	}
	for range 20000 {
		name, permits, denies := drawnName(source), some(), some()
		checkAllowed(t, name, permits, denies, allowedByCuts(name, permits, denies))
		below := "b." + name
		if impl.Allowed(name, permits, nil) && !impl.Allowed(below, permits, nil) {
			t.Fatalf("%q is permitted by %q, %q is not", name, permits, below)
		}
		if !impl.Allowed(name, nil, denies) && impl.Allowed(below, permits, denies) {
			t.Fatalf("%q is denied by %q, %q is not", name, denies, below)
		}
	}
}
