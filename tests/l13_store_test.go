package tests

import (
	"cmp"
	"fmt"
	"math"
	"math/rand"
	"slices"
	"strings"
	"testing"

	"loop.example/g00394/impl"
)

func TestStoreConstants(t *testing.T) {
	got := []int{impl.MaxCerts, impl.MaxCrls, impl.MaxAnchors, impl.MaxWays}
	if !slices.Equal(got, []int{12, 8, 3, 60}) {
		t.Errorf("MaxCerts, MaxCrls, MaxAnchors and MaxWays are %d", got)
	}
}

// houseOf: who holds the key of this name.
func houseOf(name string) int {
	sum := 0
	for i := range len(name) {
		sum += int(name[i])
	}
	return sum % impl.Secrets
}

func anchorOf(name string) impl.Anchor {
	return impl.Anchor{Name: name, Key: impl.PublicAt(houseOf(name))}
}

func anchorsOf(names ...string) []impl.Anchor {
	list := []impl.Anchor{}
	for _, name := range names {
		list = append(list, anchorOf(name))
	}
	return list
}

// link: a letter told as "root>a", who tells it and of whom. It is right; no house signed it.
func link(serial int, told string) impl.Cert {
	issuer, subject, _ := strings.Cut(told, ">")
	return impl.Cert{Serial: serial, Issuer: issuer, Subject: subject, From: 10, To: 90, Key: impl.PublicAt(houseOf(subject)), Ca: true, PathLen: 99, Usage: 7, Policies: []int{1}, Sig: textOfSize(impl.KeySize)}
}

// links: letters told in one line, with the Serials 1, 2 and so on.
func links(line string) []impl.Cert {
	list := []impl.Cert{}
	for i, told := range strings.Fields(line) {
		list = append(list, link(1+i, told))
	}
	return list
}

// fullStore: a right one, with as many of each as there may be.
func fullStore() impl.Store {
	s := impl.Store{Certs: []impl.Cert{someLetter(), bareLetter(), fullLetter()}, Crls: rightLists(), Anchors: anchorsOf("root", "a", "net.org")}
	for serial := len(s.Certs); serial < impl.MaxCerts; serial++ {
		s.Certs = append(s.Certs, changed(someLetter(), func(c *impl.Cert) { c.Serial = serial }))
	}
	for num := len(s.Crls); num < impl.MaxCrls; num++ {
		s.Crls = append(s.Crls, changedList(someList(), func(x *impl.Crl) { x.Num = num }))
	}
	return s
}

// clonedStore: in memory of its own.
func clonedStore(s impl.Store) impl.Store {
	own := impl.Store{Anchors: slices.Clone(s.Anchors)}
	for _, c := range s.Certs {
		own.Certs = append(own.Certs, changed(c, func(*impl.Cert) {}))
	}
	for _, x := range s.Crls {
		own.Crls = append(own.Crls, changedList(x, func(*impl.Crl) {}))
	}
	return own
}

// changedStore: the store with one thing done to it, in memory of its own.
func changedStore(s impl.Store, change func(s *impl.Store)) impl.Store {
	own := clonedStore(s)
	change(&own)
	return own
}

func sameStore(a, b impl.Store) bool {
	return slices.EqualFunc(a.Certs, b.Certs, sameLetter) && slices.EqualFunc(a.Crls, b.Crls, sameList) && slices.Equal(a.Anchors, b.Anchors)
}

// noTwoAlike: sorted, so that those alike would be neighbours.
func noTwoAlike(texts []string) bool {
	sorted := slices.Sorted(slices.Values(texts))
	return len(slices.Compact(sorted)) == len(texts)
}

// storeRight: StoreOk by hand.
func storeRight(t *testing.T, s impl.Store) bool {
	t.Helper()
	if len(s.Certs) > 12 || len(s.Crls) > 8 || len(s.Anchors) > 3 {
		return false
	}
	letters, lists, names := []string{}, []string{}, []string{}
	for _, c := range s.Certs {
		if !letterRight(c) {
			return false
		}
		letters = append(letters, textByLibrary(t, letterByHand(t, c)))
	}
	for _, x := range s.Crls {
		if !listRight(x) {
			return false
		}
		lists = append(lists, textByLibrary(t, listByHand(t, x)))
	}
	for _, a := range s.Anchors {
		if !nameByLibrary(a.Name) || len(a.Key) != 15 {
			return false
		}
		names = append(names, a.Name)
	}
	return noTwoAlike(letters) && noTwoAlike(lists) && noTwoAlike(names)
}

// guardedStore: s with room behind all of its lists, and whether all of that is still as it was.
func guardedStore(s impl.Store) (impl.Store, func() bool) {
	certs, certsUntouched := guardedLetters(s.Certs)
	crls, crlsUntouched := guardedLists(s.Crls)
	room := append(slices.Clone(s.Anchors), anchorOf("x"), anchorOf("y"))
	before := slices.Clone(room)
	handed := impl.Store{Certs: certs, Crls: crls, Anchors: room[:len(s.Anchors)]}
	return handed, func() bool {
		return certsUntouched() && crlsUntouched() && slices.Equal(room, before) && sameStore(handed, s)
	}
}

func checkStore(t *testing.T, s impl.Store, want bool) {
	t.Helper()
	if byHand := storeRight(t, s); byHand != want {
		t.Fatalf("%#v: the case is none, by hand it is %v", s, byHand)
	}
	handed, untouched := guardedStore(s)
	if got := impl.StoreOk(handed); got != want || !untouched() {
		t.Fatalf("StoreOk(%#v) = %v, want %v; untouched: %v", s, got, want, untouched())
	}
}

// storesToTry: of none, one and several of each.
func storesToTry() []impl.Store {
	full := fullStore()
	stores := []impl.Store{{}, {Certs: []impl.Cert{}, Crls: []impl.Crl{}, Anchors: []impl.Anchor{}}}
	for _, certs := range []int{0, 1, 3, 11, 12} {
		for _, crls := range []int{0, 1, 5, 7, 8} {
			for anchors := range 4 {
				stores = append(stores, clonedStore(impl.Store{Certs: full.Certs[:certs], Crls: full.Crls[:crls], Anchors: full.Anchors[:anchors]}))
			}
		}
	}
	return stores
}

func TestStoreOk(t *testing.T) {
	for _, s := range storesToTry() {
		checkStore(t, s, true)
	}
}

// otherLetter, otherList: right ones that are not in fullStore.
func otherLetter(i int) impl.Cert {
	return changed(someLetter(), func(c *impl.Cert) { c.Subject, c.Serial = "other", i })
}

func otherList(i int) impl.Crl {
	return changedList(someList(), func(x *impl.Crl) { x.Issuer, x.Num = "other", 1+i })
}

// manyOf: so many of them, each with a number of its own.
func manyOf[T any](count int, one func(i int) T) []T {
	list := []T{}
	for i := range count {
		list = append(list, one(i))
	}
	return list
}

// TestHowMuchIsKnown: each limit is met, and passed by one and more.
func TestHowMuchIsKnown(t *testing.T) {
	for more := 1; more < 5; more++ {
		for _, s := range []impl.Store{{}, fullStore()} {
			checkStore(t, changedStore(s, func(s *impl.Store) {
				s.Certs = fullStore().Certs
				for i := range more {
					s.Certs = append(s.Certs, otherLetter(i))
				}
			}), false)
			checkStore(t, changedStore(s, func(s *impl.Store) {
				s.Crls = fullStore().Crls
				for i := range more {
					s.Crls = append(s.Crls, otherList(i))
				}
			}), false)
			checkStore(t, changedStore(s, func(s *impl.Store) {
				s.Anchors = append(fullStore().Anchors, anchorsOf("h", "i", "j", "k")[:more]...)
			}), false)
		}
	}
	checkStore(t, impl.Store{Certs: manyOf(300, otherLetter)}, false)
	checkStore(t, impl.Store{Crls: manyOf(300, otherList)}, false)
	checkStore(t, impl.Store{Anchors: slices.Repeat(anchorsOf("root"), 300)}, false)
}

// wrongLetters: of each kind of what may be wrong with one.
func wrongLetters() []impl.Cert {
	list := []impl.Cert{{}}
	for _, turn := range wrongTurns() {
		list = append(list, changed(otherLetter(1), turn))
	}
	for _, name := range wrongNames() {
		list = append(list, changed(otherLetter(1), func(c *impl.Cert) { c.Issuer = name }), changed(otherLetter(1), func(c *impl.Cert) { c.Subject = name }))
	}
	for _, size := range []int{0, 14, 16} {
		list = append(list, changed(otherLetter(1), func(c *impl.Cert) { c.Sig = textOfSize(size) }))
	}
	return list
}

func wrongLists() []impl.Crl {
	list := []impl.Crl{{}}
	for _, turn := range []func(x *impl.Crl){
		func(x *impl.Crl) { x.Num = 0 }, func(x *impl.Crl) { x.Num = 10000 }, func(x *impl.Crl) { x.Num = math.MinInt }, func(x *impl.Crl) { x.Base = x.Num }, func(x *impl.Crl) { x.Base = -1 }, func(x *impl.Crl) { x.This = -1 }, func(x *impl.Crl) { x.This = 10000 }, func(x *impl.Crl) { x.Next = -1 }, func(x *impl.Crl) { x.Next = 10000 },
		func(x *impl.Crl) { x.Revs = revsFrom(1, 9, 1) }, func(x *impl.Crl) { slices.Reverse(x.Revs) }, func(x *impl.Crl) { x.Revs[1].Serial = x.Revs[0].Serial }, func(x *impl.Crl) { x.Revs[0].Reason = 8 }, func(x *impl.Crl) { x.Revs[0].Reason = 0 }, func(x *impl.Crl) { x.Revs[0].Reason = 11 }, func(x *impl.Crl) { x.Revs[0].Serial = -1 }, func(x *impl.Crl) { x.Revs[3].Serial = 10000 },
		func(x *impl.Crl) { x.Sig = "" }, func(x *impl.Crl) { x.Sig = x.Sig[1:] }, func(x *impl.Crl) { x.Sig += "\x00" },
	} {
		list = append(list, changedList(otherList(1), turn))
	}
	for _, name := range wrongNames() {
		list = append(list, changedList(otherList(1), func(x *impl.Crl) { x.Issuer = name }))
	}
	return list
}

func wrongAnchors() []impl.Anchor {
	list := []impl.Anchor{{}, {Name: "other"}, {Key: impl.PublicAt(0)}}
	for _, name := range wrongNames() {
		list = append(list, impl.Anchor{Name: name, Key: impl.PublicAt(0)})
	}
	for _, size := range []int{0, 1, 13, 14, 16, 17, 30} {
		list = append(list, impl.Anchor{Name: "other", Key: textOfSize(size)})
	}
	return list
}

// TestWhatIsWrongInAStore: each wrong one alone, and at each place among right ones.
func TestWhatIsWrongInAStore(t *testing.T) {
	full := fullStore()
	for _, c := range wrongLetters() {
		checkStore(t, impl.Store{Certs: []impl.Cert{c}}, false)
		for i := range full.Certs {
			checkStore(t, changedStore(full, func(s *impl.Store) { s.Certs[i] = c }), false)
		}
	}
	for _, x := range wrongLists() {
		checkStore(t, impl.Store{Crls: []impl.Crl{x}}, false)
		for i := range full.Crls {
			checkStore(t, changedStore(full, func(s *impl.Store) { s.Crls[i] = x }), false)
		}
	}
	for _, a := range wrongAnchors() {
		checkStore(t, impl.Store{Anchors: []impl.Anchor{a}}, false)
		for i := range full.Anchors {
			checkStore(t, changedStore(full, func(s *impl.Store) { s.Anchors[i] = a }), false)
		}
	}
	for _, name := range rightNames() {
		checkStore(t, impl.Store{Anchors: []impl.Anchor{{Name: name, Key: textOfSize(15)}}}, true)
	}
	// That a key is one of a house, nobody asks.
	for _, key := range []string{strings.Repeat("\x00", 15), strings.Repeat("\xff", 15)} {
		checkStore(t, changedStore(full, func(s *impl.Store) { s.Anchors[1].Key = key }), true)
	}
}

// TestTwoWithOneText: any two alike, and any two that differ in as little as one field.
func TestTwoWithOneText(t *testing.T) {
	full := fullStore()
	for i := range full.Certs {
		for j := range i {
			checkStore(t, changedStore(full, func(s *impl.Store) { s.Certs[i] = changed(s.Certs[j], func(*impl.Cert) {}) }), false)
		}
	}
	for i := range full.Crls {
		for j := range i {
			checkStore(t, changedStore(full, func(s *impl.Store) { s.Crls[i] = changedList(s.Crls[j], func(*impl.Crl) {}) }), false)
		}
	}
	for i := range full.Anchors {
		for j := range i {
			checkStore(t, changedStore(full, func(s *impl.Store) { s.Anchors[i] = s.Anchors[j] }), false)
			checkStore(t, changedStore(full, func(s *impl.Store) { s.Anchors[i].Name = s.Anchors[j].Name }), false)
			checkStore(t, changedStore(full, func(s *impl.Store) { s.Anchors[i].Key = s.Anchors[j].Key }), true)
		}
	}
	// No list at all, and an empty one.
	checkStore(t, impl.Store{Certs: []impl.Cert{bareLetter(), changed(bareLetter(), func(c *impl.Cert) { c.Policies, c.Permits, c.Denies = []int{}, []string{}, []string{} })}}, false)
	checkStore(t, impl.Store{Crls: []impl.Crl{emptyList(), changedList(emptyList(), func(x *impl.Crl) { x.Revs = []impl.Rev{} })}}, false)
	for _, change := range smallChanges() {
		c := someLetter()
		checkStore(t, impl.Store{Certs: []impl.Cert{c, changed(c, change)}}, true)
		checkStore(t, impl.Store{Certs: []impl.Cert{changed(c, change), bareLetter(), c}}, true)
	}
	for _, change := range []func(x *impl.Crl){
		func(x *impl.Crl) { x.Issuer = "ca.orgs" }, func(x *impl.Crl) { x.Num++ }, func(x *impl.Crl) { x.This++ }, func(x *impl.Crl) { x.Next-- }, func(x *impl.Crl) { x.Base = 1 }, func(x *impl.Crl) { x.Revs[1].Serial++ }, func(x *impl.Crl) { x.Revs[1].Reason-- }, func(x *impl.Crl) { x.Revs = x.Revs[1:] }, func(x *impl.Crl) { x.Sig = turned(x.Sig, 14, 1) },
	} {
		x := someList()
		checkStore(t, impl.Store{Crls: []impl.Crl{x, changedList(x, change)}}, true)
		checkStore(t, impl.Store{Crls: []impl.Crl{changedList(x, change), emptyList(), x}}, true)
	}
}

// smallChanges: to someLetter, so that it is another one, and still right.
func smallChanges() []func(c *impl.Cert) {
	return []func(c *impl.Cert){
		func(c *impl.Cert) { c.Serial++ }, func(c *impl.Cert) { c.Issuer = "roots" }, func(c *impl.Cert) { c.Subject = "a.ca.org" }, func(c *impl.Cert) { c.From++ }, func(c *impl.Cert) { c.To-- }, func(c *impl.Cert) { c.Key = impl.PublicAt(2) }, func(c *impl.Cert) { c.Ca = false }, func(c *impl.Cert) { c.PathLen-- }, func(c *impl.Cert) { c.Usage = 4 },
		func(c *impl.Cert) { c.Policies[1] = 2 }, func(c *impl.Cert) { c.Permits = c.Permits[1:] }, func(c *impl.Cert) { c.Denies = nil }, func(c *impl.Cert) { c.Permits, c.Denies = c.Denies, c.Permits }, func(c *impl.Cert) { c.Sig = turned(c.Sig, 0, 128) },
	}
}

func checkOwnAnchors(t *testing.T, name string, answer, handed []impl.Anchor) {
	t.Helper()
	if cap(answer) > 0 && cap(handed) > 0 && memoryOf(answer).meets(memoryOf(handed)) {
		t.Fatalf("%s: Anchors share memory with an argument", name)
	}
	for _, a := range answer {
		for _, b := range handed {
			if shares(a.Name, b.Name) || shares(a.Key, b.Key) {
				t.Fatalf("%s: a text of an anchor shares memory with an argument", name)
			}
		}
	}
}

// checkOwnLetters: no letter of the answer lies in the memory of what was handed in, or of another one of the answer.
func checkOwnLetters(t *testing.T, name string, answer []impl.Cert, handed ...impl.Cert) {
	t.Helper()
	if cap(answer) > 0 && cap(handed) > 0 && memoryOf(answer).meets(memoryOf(handed)) {
		t.Fatalf("%s: the answer lies in the memory of its argument", name)
	}
	for i, c := range answer {
		checkOwnLetter(t, name, c, handed...)
		checkOwnLetter(t, name, c, answer[:i]...)
	}
}

func checkOwnStore(t *testing.T, name string, answer, handed impl.Store) {
	t.Helper()
	checkOwnLetters(t, name, answer.Certs, handed.Certs...)
	checkOwnLists(t, name, answer.Crls, handed.Crls...)
	checkOwnAnchors(t, name, answer.Anchors, handed.Anchors)
}

func spoilStore(s impl.Store) {
	for _, c := range s.Certs {
		spoilLetter(c)
	}
	for _, x := range s.Crls {
		spoilRevs(x.Revs)
	}
	for i := range s.Certs[:cap(s.Certs)] {
		s.Certs[:cap(s.Certs)][i] = impl.Cert{Subject: "spoilt"}
	}
	for i := range s.Crls[:cap(s.Crls)] {
		s.Crls[:cap(s.Crls)][i] = impl.Crl{Issuer: "spoilt"}
	}
	for i := range s.Anchors[:cap(s.Anchors)] {
		s.Anchors[:cap(s.Anchors)][i] = impl.Anchor{Name: "spoilt"}
	}
}

// checkLearnt: what was answered to one more, held whole: more, or s as it is.
func checkLearnt(t *testing.T, name string, ask func() (impl.Store, bool), s, more impl.Store, want bool) impl.Store {
	t.Helper()
	wanted := s
	if want {
		wanted = more
	}
	if byHand := storeRight(t, more); byHand != want {
		t.Fatalf("%s: %#v: the case is none, by hand it is %v", name, more, byHand)
	}
	got, ok := ask()
	if ok != want || !sameStore(got, wanted) {
		t.Fatalf("%s to %#v = %#v, %v, want %#v, %v", name, s, got, ok, wanted, want)
	}
	again, _ := ask()
	checkOwnStore(t, name, got, again)
	spoilStore(got)
	if third, _ := ask(); !sameStore(again, wanted) || !sameStore(third, wanted) {
		t.Fatalf("%s to %#v hands out what it keeps, or its argument", name, s)
	}
	return again
}

func checkAddCert(t *testing.T, s impl.Store, c impl.Cert, want bool) impl.Store {
	t.Helper()
	handed, untouched := guardedStore(s)
	letter, letterUntouched := guardedLetter(c)
	more := changedStore(s, func(s *impl.Store) { s.Certs = append(s.Certs, c) })
	got := checkLearnt(t, "AddCert", func() (impl.Store, bool) { return impl.AddCert(handed, letter) }, s, more, want)
	checkOwnStore(t, "AddCert", got, handed)
	checkOwnLetters(t, "AddCert", got.Certs, letter)
	if !untouched() || !letterUntouched() || !sameLetter(letter, c) {
		t.Fatalf("AddCert(%#v, %#v) writes into them", s, c)
	}
	return got
}

func checkAddCrl(t *testing.T, s impl.Store, x impl.Crl, want bool) impl.Store {
	t.Helper()
	handed, untouched := guardedStore(s)
	list, listUntouched := guardedList(x)
	more := changedStore(s, func(s *impl.Store) { s.Crls = append(s.Crls, x) })
	got := checkLearnt(t, "AddCrl", func() (impl.Store, bool) { return impl.AddCrl(handed, list) }, s, more, want)
	checkOwnStore(t, "AddCrl", got, handed)
	checkOwnLists(t, "AddCrl", got.Crls, list)
	if !untouched() || !listUntouched() || !sameList(list, x) {
		t.Fatalf("AddCrl(%#v, %#v) writes into them", s, x)
	}
	return got
}

// TestLearning: from nothing on, one behind the other, until there is no more room.
func TestLearning(t *testing.T) {
	full := fullStore()
	for _, anchors := range [][]impl.Anchor{nil, full.Anchors} {
		s := impl.Store{Anchors: anchors}
		for i, c := range full.Certs {
			s = checkAddCert(t, s, c, true)
			for _, known := range full.Certs[:i+1] {
				checkAddCert(t, s, known, false)
			}
		}
		for i, x := range full.Crls {
			s = checkAddCrl(t, s, x, true)
			for _, known := range full.Crls[:i+1] {
				checkAddCrl(t, s, known, false)
			}
		}
		if !slices.EqualFunc(s.Certs, full.Certs, sameLetter) || !slices.EqualFunc(s.Crls, full.Crls, sameList) || !slices.Equal(s.Anchors, anchors) {
			t.Fatalf("what was learnt is %#v", s)
		}
		checkAddCert(t, s, otherLetter(1), false)
		checkAddCrl(t, s, otherList(1), false)
	}
}

func TestLearningInEachStore(t *testing.T) {
	for _, s := range storesToTry() {
		checkAddCert(t, s, otherLetter(1), len(s.Certs) < 12)
		checkAddCrl(t, s, otherList(1), len(s.Crls) < 8)
		if len(s.Certs) > 0 {
			checkAddCert(t, s, changed(s.Certs[0], func(*impl.Cert) {}), false)
			checkAddCert(t, s, changed(s.Certs[0], func(c *impl.Cert) { c.Usage ^= 1 }), len(s.Certs) < 12)
		}
		if len(s.Crls) > 0 {
			checkAddCrl(t, s, changedList(s.Crls[0], func(*impl.Crl) {}), false)
			checkAddCrl(t, s, changedList(s.Crls[0], func(x *impl.Crl) { x.Next-- }), len(s.Crls) < 8)
		}
	}
}

// wrongStores: with room for one more, unless it is that which is wrong.
func wrongStores() []impl.Store {
	some := impl.Store{Certs: fullStore().Certs[:3], Crls: fullStore().Crls[:3], Anchors: fullStore().Anchors[:2]}
	stores := []impl.Store{}
	add := func(change func(s *impl.Store)) { stores = append(stores, changedStore(some, change)) }
	for _, c := range wrongLetters() {
		add(func(s *impl.Store) { s.Certs[1] = c })
	}
	for _, x := range wrongLists() {
		add(func(s *impl.Store) { s.Crls[1] = x })
	}
	for _, a := range wrongAnchors() {
		add(func(s *impl.Store) { s.Anchors[1] = a })
	}
	add(func(s *impl.Store) { s.Certs[2] = changed(s.Certs[0], func(*impl.Cert) {}) })
	add(func(s *impl.Store) { s.Crls[2] = changedList(s.Crls[0], func(*impl.Crl) {}) })
	add(func(s *impl.Store) { s.Anchors[1].Name = s.Anchors[0].Name })
	add(func(s *impl.Store) { s.Anchors = anchorsOf("h", "i", "j", "k") })
	add(func(s *impl.Store) { s.Certs = manyOf(13, otherLetter) })
	add(func(s *impl.Store) { s.Crls = manyOf(9, otherList) })
	return stores
}

// TestLearningWhatIsWrong: nothing is learnt, and the store is as it was, right or not.
func TestLearningWhatIsWrong(t *testing.T) {
	for _, s := range []impl.Store{{}, {Certs: fullStore().Certs[:3], Crls: fullStore().Crls[:3], Anchors: fullStore().Anchors[:2]}, fullStore()} {
		for _, c := range wrongLetters() {
			checkAddCert(t, s, c, false)
		}
		for _, x := range wrongLists() {
			checkAddCrl(t, s, x, false)
		}
	}
	for _, s := range wrongStores() {
		checkAddCert(t, s, otherLetter(50), false)
		checkAddCrl(t, s, otherList(50), false)
		checkAddCert(t, s, impl.Cert{}, false)
		checkAddCrl(t, s, impl.Crl{}, false)
	}
}

// TestLearningFromOneMemory: lists that lie in one memory are handed out in several.
func TestLearningFromOneMemory(t *testing.T) {
	names, rules, revs := []string{"a", "b", "c", "d"}, []int{1, 2, 3, 4}, revsFrom(1, 8, 1)
	s := impl.Store{Anchors: anchorsOf("root")}
	for i := range 4 {
		s.Certs = append(s.Certs, changed(otherLetter(i), func(c *impl.Cert) { c.Policies, c.Permits, c.Denies = rules[:i], names[:i], names[i:] }))
		s.Crls = append(s.Crls, changedList(otherList(i), func(x *impl.Crl) { x.Revs = revs[:2*i] }))
	}
	for _, handed := range []impl.Store{s, {Certs: s.Certs[:3], Crls: s.Crls[:3], Anchors: s.Anchors}} {
		for _, c := range append(slices.Clone(s.Certs), changed(otherLetter(9), func(c *impl.Cert) { c.Policies, c.Permits, c.Denies = rules, names, names })) {
			got, _ := impl.AddCert(handed, c)
			checkOwnStore(t, "AddCert", got, s)
			checkOwnLetters(t, "AddCert", got.Certs, c)
		}
		for _, x := range append(slices.Clone(s.Crls), changedList(otherList(9), func(x *impl.Crl) { x.Revs = revs })) {
			got, _ := impl.AddCrl(handed, x)
			checkOwnStore(t, "AddCrl", got, s)
			checkOwnLists(t, "AddCrl", got.Crls, x)
		}
	}
}

// row: a way by places: of its anchor, and of its letters in Certs; the target is behind them.
type row struct {
	anchor int
	places []int
}

func (one row) path(s impl.Store, target impl.Cert) []impl.Cert {
	path := []impl.Cert{}
	for _, place := range one.places {
		path = append(path, s.Certs[place])
	}
	return append(path, target)
}

// holds: whether it is a way by the chapter's words.
func (one row) holds(s impl.Store, target impl.Cert) bool {
	path := one.path(s, target)
	ahead, names := s.Anchors[one.anchor].Name, []string{s.Anchors[one.anchor].Name}
	for _, c := range path {
		if c.Issuer != ahead {
			return false
		}
		ahead, names = c.Subject, append(names, c.Subject)
	}
	return len(path) <= 5 && noTwoAlike(names)
}

// rowsByHand: from the target backwards, letter by letter, whether names come back or not; then those that hold, in order, as many as there may be.
func rowsByHand(t *testing.T, s impl.Store, target impl.Cert) []row {
	t.Helper()
	if !storeRight(t, s) || !letterRight(target) {
		return nil
	}
	all, last := [][]int{{}}, [][]int{{}}
	for range 4 {
		longer := [][]int{}
		for _, places := range last {
			issuer := target.Issuer
			if len(places) > 0 {
				issuer = s.Certs[places[0]].Issuer
			}
			for place, c := range s.Certs {
				if c.Subject == issuer {
					longer = append(longer, append([]int{place}, places...))
				}
			}
		}
		all, last = append(all, longer...), longer
	}
	slices.SortFunc(all, slices.Compare)
	rows := []row{}
	for anchor := range s.Anchors {
		for _, places := range all {
			if one := (row{anchor, places}); one.holds(s, target) {
				rows = append(rows, one)
			}
		}
	}
	return rows[:min(len(rows), 60)]
}

func sameRows(a, b []row) bool {
	return slices.EqualFunc(a, b, func(a, b row) bool { return a.anchor == b.anchor && slices.Equal(a.places, b.places) })
}

func sameWays(a, b impl.Way) bool {
	return a.Anchor == b.Anchor && slices.EqualFunc(a.Path, b.Path, sameLetter)
}

func waysOfRows(rows []row, s impl.Store, target impl.Cert) []impl.Way {
	ways := []impl.Way{}
	for _, one := range rows {
		ways = append(ways, impl.Way{Anchor: one.anchor, Path: one.path(s, target)})
	}
	return ways
}

// checkWays: held against the chapter's words by hand; all of them, in order, and none twice.
func checkWays(t *testing.T, s impl.Store, target impl.Cert) []row {
	t.Helper()
	rows := rowsByHand(t, s, target)
	handed, untouched := guardedStore(s)
	letter, letterUntouched := guardedLetter(target)
	got, want := impl.WaysTo(handed, letter), waysOfRows(rows, s, target)
	if !slices.EqualFunc(got, want, sameWays) {
		t.Fatalf("WaysTo(%s, %s>%s) = %s, want %s, which are %v", toldOf(s), target.Issuer, target.Subject, toldWays(got), toldWays(want), rows)
	}
	if !untouched() || !letterUntouched() || !sameLetter(letter, target) {
		t.Fatalf("WaysTo(%#v, %#v) writes into them", s, target)
	}
	return rows
}

// toldOf: for whom a test fails.
func toldOf(s impl.Store) string {
	told := []string{}
	for _, a := range s.Anchors {
		told = append(told, a.Name)
	}
	for _, c := range s.Certs {
		told = append(told, c.Issuer+">"+c.Subject)
	}
	return strings.Join(told, " ")
}

func toldWays(ways []impl.Way) string {
	told := []string{}
	for _, w := range ways {
		serials := []int{}
		for _, c := range w.Path {
			serials = append(serials, c.Serial)
		}
		told = append(told, fmt.Sprint(w.Anchor, ":", serials))
	}
	return strings.Join(told, " ")
}

// checkRows: the rows that are told, by hand and by the program.
func checkRows(t *testing.T, anchors, line, target string, want ...row) {
	t.Helper()
	s := impl.Store{Certs: links(line), Anchors: anchorsOf(strings.Fields(anchors)...)}
	if got := checkWays(t, s, link(99, target)); !sameRows(got, want) {
		t.Fatalf("%s, %s, %s: the ways are %v, not %v", anchors, line, target, got, want)
	}
}

// from: a way from the anchor at this place.
func from(anchor int, places ...int) row {
	return row{anchor, places}
}

func TestNoWays(t *testing.T) {
	checkRows(t, "", "", "root>t")
	checkRows(t, "", "root>a a>b", "b>t")
	checkRows(t, "root", "", "a>t")
	checkRows(t, "root", "", "t>root")
	checkRows(t, "root", "a>b b>c", "c>t")
	checkRows(t, "root", "root>a b>c", "c>t")
	checkRows(t, "root", "root>a a>b", "c>t")
	checkRows(t, "root net org", "a>b b>c", "c>t")
	// Names that only look alike.
	checkRows(t, "root", "roots>a roo>a x.root>a root.x>a", "a>t")
	checkRows(t, "root", "root>a", "a.b>t")
	checkRows(t, "root", "root>a.b", "a>t")
	checkRows(t, "root", "root>a.b", "b>t")
}

func TestWaysOfOneLetter(t *testing.T) {
	checkRows(t, "root", "", "root>t", from(0))
	checkRows(t, "a root", "", "root>t", from(1))
	checkRows(t, "a b root", "", "root>t", from(2))
	checkRows(t, "a b root", "root>a a>b b>c", "root>t", from(2))
	// No other way from that anchor may come back to its Name.
	checkRows(t, "root", "root>a a>root root>b b>root", "root>t", from(0))
	// The row that is the target alone, and those from the other anchors that go on.
	checkRows(t, "root org", "org>root", "root>t", from(0), from(1, 0))
	checkRows(t, "org root", "org>root", "root>t", from(0, 0), from(1))
	checkRows(t, "org root net", "net>a org>root a>root org>a", "root>t", from(0, 1), from(0, 3, 2), from(1), from(2, 0, 2))
}

func TestWaysInOrder(t *testing.T) {
	checkRows(t, "root", "root>a", "a>t", from(0, 0))
	checkRows(t, "root", "root>a a>b b>c c>d", "d>t", from(0, 0, 1, 2, 3))
	checkRows(t, "root", "c>d b>c a>b root>a", "d>t", from(0, 3, 2, 1, 0))
	checkRows(t, "root", "root>a root>a root>a", "a>t", from(0, 0), from(0, 1), from(0, 2))
	// The first letter counts ahead of the last one.
	checkRows(t, "root", "b>c a>c root>a root>b", "c>t", from(0, 2, 1), from(0, 3, 0))
	checkRows(t, "root", "root>b root>a a>c b>c", "c>t", from(0, 0, 3), from(0, 1, 2))
	// Not the shorter one first, but the one whose letters stand first.
	checkRows(t, "root", "root>a a>b root>b", "b>t", from(0, 0, 1), from(0, 2))
	checkRows(t, "root", "root>b a>b root>a", "b>t", from(0, 0), from(0, 2, 1))
	checkRows(t, "root", "a>b root>a root>b", "b>t", from(0, 1, 0), from(0, 2))
	checkRows(t, "root", "root>a a>b b>c a>c root>c root>b", "c>t", from(0, 0, 1, 2), from(0, 0, 3), from(0, 4), from(0, 5, 2))
	// Anchors count ahead of all.
	checkRows(t, "b a", "a>c b>c", "c>t", from(0, 1), from(1, 0))
	checkRows(t, "a b", "a>c b>c", "c>t", from(0, 0), from(1, 1))
	checkRows(t, "a b c", "c>d b>d a>d", "d>t", from(0, 2), from(1, 1), from(2, 0))
	// One anchor may stand in the way of another.
	checkRows(t, "a b c", "a>b b>c", "c>t", from(0, 0, 1), from(1, 1), from(2))
	checkRows(t, "c b a", "a>b b>c", "c>t", from(0), from(1, 1), from(2, 0, 1))
	checkRows(t, "a b c", "a>b b>c c>a", "c>t", from(0, 0, 1), from(1, 1), from(2))
	checkRows(t, "a b c", "b>a c>b a>c", "c>t", from(0, 2), from(1, 0, 2), from(2))
}

// TestNamesThatComeBack: a Subject twice, the anchor's Name, rings, and the target's own name.
func TestNamesThatComeBack(t *testing.T) {
	checkRows(t, "root", "", "root>root")
	checkRows(t, "root", "", "t>t")
	checkRows(t, "t", "", "t>t")
	checkRows(t, "root", "root>a", "a>root")
	checkRows(t, "root", "root>a", "a>a")
	checkRows(t, "root", "root>a a>a", "a>t", from(0, 0))
	checkRows(t, "root", "root>root root>a", "a>t", from(0, 1))
	checkRows(t, "root", "root>a a>root root>b", "b>t", from(0, 2))
	checkRows(t, "root", "root>a a>b b>a", "b>t", from(0, 0, 1))
	checkRows(t, "root", "root>a a>b b>a", "a>t", from(0, 0))
	checkRows(t, "root", "root>a a>b b>c c>a", "c>t", from(0, 0, 1, 2))
	checkRows(t, "root", "a>b b>c c>a root>a", "a>t", from(0, 3))
	checkRows(t, "root", "a>b b>a", "a>t")
	checkRows(t, "root", "a>b b>c c>a", "c>t")
	checkRows(t, "root", "root>a a>b root>b b>a", "b>t", from(0, 0, 1), from(0, 2))
	checkRows(t, "root", "root>a a>b root>b b>a", "a>t", from(0, 0), from(0, 2, 3))
	// The target's Subject, in the midst of the way, and at its beginning.
	checkRows(t, "root", "root>t t>a", "a>t")
	checkRows(t, "root", "root>a a>t t>b", "b>t")
	checkRows(t, "root", "root>a a>t t>b a>b", "b>t", from(0, 0, 3))
	checkRows(t, "root", "root>a t>a", "a>t", from(0, 0))
	checkRows(t, "t root", "t>a root>a", "a>t", from(1, 1))
	// Other anchors' Names are names like any other.
	checkRows(t, "root org", "root>org org>a", "a>t", from(0, 0, 1), from(1, 1))
	checkRows(t, "root org", "root>org org>root", "org>t", from(0, 0), from(1))
	checkRows(t, "root org", "root>a", "a>org", from(0, 0))
	checkRows(t, "root org", "root>a org>a", "a>root", from(1, 1))
}

// TestTargetAmongTheLetters: its own text among Certs leads nowhere, nor is it a way twice.
func TestTargetAmongTheLetters(t *testing.T) {
	for _, c := range []struct {
		line string
		at   int
		want []row
	}{
		{"root>t", 0, []row{from(0)}},
		{"root>a a>t", 1, []row{from(0, 0)}},
		{"a>t root>a", 0, []row{from(0, 1)}},
		{"root>a a>b b>t root>b", 2, []row{from(0, 0, 1), from(0, 3)}},
		{"root>a a>b b>c c>d d>t", 4, []row{from(0, 0, 1, 2, 3)}},
	} {
		s := impl.Store{Certs: links(c.line), Anchors: anchorsOf("root")}
		target := changed(s.Certs[c.at], func(*impl.Cert) {})
		if got := checkWays(t, s, target); !sameRows(got, c.want) {
			t.Fatalf("%s: the ways are %v, not %v", c.line, got, c.want)
		}
		// Another letter of the same, once and twice.
		for range 2 {
			s.Certs = append(s.Certs, changed(target, func(c *impl.Cert) { c.Serial = 50 + len(s.Certs) }))
			if got := checkWays(t, s, target); !sameRows(got, c.want) {
				t.Fatalf("%s: the ways are %v, not %v", c.line, got, c.want)
			}
		}
	}
}

// TestHowLongWaysMayBe: up to MaxPath letters, the target among them.
func TestHowLongWaysMayBe(t *testing.T) {
	names := strings.Fields("root a b c d e f g h i j k l")
	for n := range impl.MaxCerts + 1 {
		told := []string{}
		for i := range n {
			told = append(told, names[i]+">"+names[i+1])
		}
		want := []row{}
		if n < impl.MaxPath {
			want = append(want, row{0, []int{0, 1, 2, 3}[:n]})
		}
		checkRows(t, "root", strings.Join(told, " "), names[n]+">t", want...)
	}
	// One that is too long, and shorter ones behind it.
	checkRows(t, "root", "root>a a>b b>c c>d d>e", "e>t")
	checkRows(t, "root", "root>a a>b b>c c>d d>e root>e", "e>t", from(0, 5))
	checkRows(t, "root", "root>a a>b b>c c>d d>e root>b", "e>t", from(0, 5, 2, 3, 4))
	checkRows(t, "root", "root>a a>b b>c c>d d>e c>e b>e", "e>t", from(0, 0, 1, 2, 5), from(0, 0, 1, 6))
	checkRows(t, "root b", "root>a a>b b>c c>d d>e", "e>t", from(1, 2, 3, 4))
	checkRows(t, "root a", "root>a a>b b>c c>d d>e", "e>t", from(1, 1, 2, 3, 4))
}

// layers: so many letters from each name to the next one, from this name on.
func layers(first string, counts ...int) string {
	told, ahead := []string{}, first
	for i, count := range counts {
		name := string(rune('a' + i))
		told = append(told, slices.Repeat([]string{ahead + ">" + name}, count)...)
		ahead = name
	}
	return strings.Join(told, " ")
}

// TestHowManyWays: below MaxWays, just as many, and more.
func TestHowManyWays(t *testing.T) {
	for _, c := range []struct {
		counts []int
		want   int
	}{
		{[]int{12}, 12}, {[]int{6, 6}, 36}, {[]int{3, 3, 6}, 54}, {[]int{2, 5, 5}, 50}, {[]int{3, 4, 5}, 60}, {[]int{5, 4, 3}, 60}, {[]int{4, 5, 3}, 60}, {[]int{4, 4, 4}, 60}, {[]int{3, 3, 3, 3}, 60}, {[]int{2, 2, 4, 4}, 60}, {[]int{5, 3, 2, 2}, 60}, {[]int{1, 3, 4, 4}, 48}, {[]int{2, 3, 3, 3}, 54}, {[]int{1, 4, 5, 2}, 40}, {[]int{5, 3, 2, 2, 1}, 0},
	} {
		s := impl.Store{Certs: links(layers("root", c.counts...)), Anchors: anchorsOf("root")}
		target := link(99, string(rune('a'+len(c.counts)-1))+">t")
		for range 4 {
			if rows := checkWays(t, s, target); len(rows) != c.want {
				t.Fatalf("%d: there are %d ways, not %d", c.counts, len(rows), c.want)
			}
			s.Certs = slices.Concat(s.Certs[5:], s.Certs[:5])
			slices.Reverse(s.Certs[2:])
		}
	}
}

// TestHowManyWaysFromSeveral: the first ones of all anchors together.
func TestHowManyWaysFromSeveral(t *testing.T) {
	for _, c := range []struct {
		anchors string
		line    string
		want    [3]int
	}{
		{"root org net", "root>a root>a org>a org>a a>b a>b a>b a>b b>c b>c b>c b>c", [3]int{32, 28, 0}},
		{"root org net", "root>a org>a org>a net>a a>b a>b a>b a>b b>c b>c b>c b>c", [3]int{16, 32, 12}},
		{"root org net", "root>a org>a net>a net>a a>b a>b a>b a>b b>c b>c b>c b>c", [3]int{16, 16, 28}},
		{"root org net", "root>a org>a net>a a>b a>b a>b a>b b>c b>c b>c b>c b>c", [3]int{20, 20, 20}},
		{"root org net", "root>a org>a net>a a>b a>b a>b a>b b>c b>c b>c b>c c>root", [3]int{16, 16, 16}},
		{"root org net", "root>a root>a root>a org>a a>b a>b a>b a>b b>c b>c b>c b>c", [3]int{48, 12, 0}},
		{"root org net", layers("root", 3, 4, 5), [3]int{60, 0, 0}},
		{"root org net", layers("org", 3, 4, 5), [3]int{0, 60, 0}},
		{"root org net", layers("net", 3, 4, 5), [3]int{0, 0, 60}},
		// With those that are enough, the anchors behind them have ways, too.
		{"root a b", layers("root", 3, 4, 5), [3]int{60, 0, 0}},
		{"root b a", layers("root", 4, 4, 4), [3]int{60, 0, 0}},
		{"a root b", layers("root", 3, 4, 5), [3]int{20, 40, 0}},
		{"b a root", layers("root", 3, 4, 5), [3]int{5, 20, 35}},
		{"c a root", layers("root", 3, 4, 5), [3]int{1, 20, 39}},
		{"b root a", layers("root", 4, 4, 4), [3]int{4, 56, 0}},
		{"c root a", layers("root", 4, 4, 4), [3]int{1, 59, 0}},
	} {
		s := impl.Store{Certs: links(c.line), Anchors: anchorsOf(strings.Fields(c.anchors)...)}
		got := [3]int{}
		for _, one := range checkWays(t, s, link(99, "c>t")) {
			got[one.anchor]++
		}
		if got != c.want {
			t.Fatalf("%s, %s: there are %d ways, not %d", c.anchors, c.line, got, c.want)
		}
	}
}

// checkNothing: no way at all, and PcEmpty.
func checkNothing(t *testing.T, s impl.Store, target impl.Cert) {
	t.Helper()
	if rows := checkWays(t, s, target); len(rows) != 0 {
		t.Fatalf("%#v, %#v: the case is none, there are ways %v", s, target, rows)
	}
	for _, r := range append(rightRules(), impl.Rules{Time: -1}) {
		checkFind(t, s, target, r, -1, impl.PcEmpty)
	}
}

// TestWaysInWrongStores: whatever is wrong, and wherever, there is no way.
func TestWaysInWrongStores(t *testing.T) {
	known := impl.Store{Certs: links("root>a"), Crls: rightLists()[:1], Anchors: anchorsOf("root", "a")}
	for _, target := range []impl.Cert{link(99, "root>t"), link(99, "a>t")} {
		if rows := checkWays(t, known, target); len(rows) == 0 {
			t.Fatal("the case is none")
		}
		for _, c := range wrongLetters() {
			checkNothing(t, changedStore(known, func(s *impl.Store) { s.Certs = append(s.Certs, c) }), target)
		}
		for _, x := range wrongLists() {
			checkNothing(t, changedStore(known, func(s *impl.Store) { s.Crls = append(s.Crls, x) }), target)
		}
		for _, a := range wrongAnchors() {
			checkNothing(t, changedStore(known, func(s *impl.Store) { s.Anchors = append(s.Anchors, a) }), target)
		}
		for _, change := range []func(s *impl.Store){
			func(s *impl.Store) { s.Certs = append(s.Certs, changed(s.Certs[0], func(*impl.Cert) {})) },
			func(s *impl.Store) { s.Crls = append(s.Crls, changedList(s.Crls[0], func(*impl.Crl) {})) },
			func(s *impl.Store) { s.Anchors = append(s.Anchors, impl.Anchor{Name: "root", Key: textOfSize(15)}) },
			func(s *impl.Store) { s.Certs = append(s.Certs, manyOf(12, otherLetter)...) },
			func(s *impl.Store) { s.Crls = append(s.Crls, manyOf(8, otherList)...) },
			func(s *impl.Store) { s.Anchors = append(s.Anchors, anchorsOf("h", "i")...) },
		} {
			checkNothing(t, changedStore(known, change), target)
		}
	}
	for _, wrong := range wrongStores() {
		checkNothing(t, wrong, link(99, "root>t"))
	}
}

func TestWaysToWrongTargets(t *testing.T) {
	known := impl.Store{Certs: links("root>a a>b"), Anchors: anchorsOf("root")}
	for _, told := range []string{"root>t", "a>t", "b>t"} {
		target := link(99, told)
		if rows := checkWays(t, known, target); len(rows) != 1 {
			t.Fatal("the case is none")
		}
		for _, turn := range wrongTurns() {
			checkNothing(t, known, changed(target, turn))
		}
		for _, name := range wrongNames() {
			checkNothing(t, known, changed(target, func(c *impl.Cert) { c.Subject = name }))
			checkNothing(t, known, changed(target, func(c *impl.Cert) { c.Issuer = name }))
		}
		for _, size := range []int{0, 14, 16} {
			checkNothing(t, known, changed(target, func(c *impl.Cert) { c.Sig = textOfSize(size) }))
		}
	}
	checkNothing(t, known, impl.Cert{})
	checkNothing(t, impl.Store{}, impl.Cert{})
	checkNothing(t, impl.Store{}, link(99, "root>t"))
}

// TestWaysInAllSmallStores: every store of at most three letters among three names, whoever is trusted, and whoever is asked for.
func TestWaysInAllSmallStores(t *testing.T) {
	pool, counts := []string{}, map[int]int{}
	for _, a := range []string{"a", "b", "c"} {
		for _, b := range []string{"a", "b", "c"} {
			pool = append(pool, a+">"+b)
		}
	}
	allLists(pool, 3, func(told []string) {
		for _, anchors := range []string{"a", "a b", "c b a"} {
			s := impl.Store{Certs: links(strings.Join(told, " ")), Anchors: anchorsOf(strings.Fields(anchors)...)}
			for _, target := range []string{"a>t", "b>t", "c>t", "b>c"} {
				counts[len(checkWays(t, s, link(99, target)))]++
			}
		}
	})
	if counts[0] < 500 || counts[1] < 500 || counts[2] < 300 || counts[3] < 100 {
		t.Errorf("ways %v: the cases are none", counts)
	}
}

// drawnStore: letters among a few names, so that there are ways, and names that come back.
func drawnStore(source *rand.Rand) impl.Store {
	names := strings.Fields("root a b c d org net")[:2+source.Intn(6)]
	s := impl.Store{}
	for i := range source.Intn(impl.MaxCerts + 1) {
		at := source.Intn(len(names))
		next := (at + 1) % len(names)
		if source.Intn(3) == 0 {
			next = source.Intn(len(names))
		}
		s.Certs = append(s.Certs, link(1+i, names[at]+">"+names[next]))
	}
	for _, at := range source.Perm(len(names))[:1+source.Intn(min(3, len(names)))] {
		s.Anchors = append(s.Anchors, anchorOf(names[at]))
	}
	return s
}

func TestWaysInDrawnStores(t *testing.T) {
	source := rand.New(rand.NewSource(13))
	counts := map[int]int{}
	for range 6000 {
		s := drawnStore(source)
		target := link(99, strings.Fields("root a b c d org net")[source.Intn(7)]+">"+strings.Fields("t t t a b root")[source.Intn(6)])
		counts[min(3, len(checkWays(t, s, target)))]++
	}
	if counts[0] < 500 || counts[1] < 500 || counts[2] < 300 || counts[3] < 300 {
		t.Errorf("ways %v: too few of a kind", counts)
	}
}

// textOfWay: PathText by hand.
func textOfWay(t *testing.T, w impl.Way) string {
	t.Helper()
	text := ""
	for _, c := range w.Path {
		if letterRight(c) {
			text += textByLibrary(t, letterByHand(t, c))
		}
	}
	return text
}

func checkSameWay(t *testing.T, a, b impl.Way) bool {
	t.Helper()
	want := a.Anchor == b.Anchor && textOfWay(t, a) == textOfWay(t, b)
	first, firstUntouched := guardedLetters(a.Path)
	second, secondUntouched := guardedLetters(b.Path)
	if got := impl.SameWay(impl.Way{Anchor: a.Anchor, Path: first}, impl.Way{Anchor: b.Anchor, Path: second}); got != want || !firstUntouched() || !secondUntouched() {
		t.Fatalf("SameWay(%#v, %#v) = %v, want %v; untouched: %v, %v", a, b, got, want, firstUntouched(), secondUntouched())
	}
	return want
}

func TestSameWay(t *testing.T) {
	a, b, c := someLetter(), bareLetter(), fullLetter()
	ways := []impl.Way{}
	for _, anchor := range []int{0, 1, -1, 59, math.MinInt} {
		allLists([]impl.Cert{a, b, c}, 2, func(path []impl.Cert) { ways = append(ways, impl.Way{Anchor: anchor, Path: path}) })
	}
	for i, one := range ways {
		for j, other := range ways {
			if checkSameWay(t, one, other) != (i == j) {
				t.Fatalf("%#v, %#v: the case is none", one, other)
			}
		}
	}
	for _, change := range smallChanges() {
		for at := range 3 {
			path := []impl.Cert{a, a, a}
			path[at] = changed(a, change)
			if checkSameWay(t, impl.Way{Path: path}, impl.Way{Path: []impl.Cert{a, a, a}}) {
				t.Fatalf("%#v: the case is none", path)
			}
		}
	}
	if !checkSameWay(t, impl.Way{}, impl.Way{Path: []impl.Cert{}}) || !checkSameWay(t, impl.Way{Path: []impl.Cert{b}}, impl.Way{Path: []impl.Cert{changed(b, func(c *impl.Cert) { c.Policies, c.Permits, c.Denies = []int{}, []string{}, []string{} })}}) {
		t.Error("an empty list is another one than none")
	}
	// One that is not right has no text: it doesn't count.
	for _, wrong := range wrongLetters() {
		same := []impl.Way{{Path: []impl.Cert{a, c}}, {Path: []impl.Cert{wrong, a, c}}, {Path: []impl.Cert{a, wrong, c}}, {Path: []impl.Cert{a, c, {}, wrong}}}
		for _, one := range same {
			for _, other := range same {
				if !checkSameWay(t, one, other) {
					t.Fatal("the case is none")
				}
				checkSameWay(t, one, impl.Way{Anchor: 1, Path: other.Path})
			}
		}
	}
	long := slices.Repeat([]impl.Cert{a, c}, 100)
	if !checkSameWay(t, impl.Way{Path: long}, impl.Way{Path: slices.Clone(long)}) || checkSameWay(t, impl.Way{Path: long}, impl.Way{Path: long[1:]}) {
		t.Error("the case is none")
	}
}

// TestNoWayTwice: promise 13: no two of the ways to a letter are the same.
func TestNoWayTwice(t *testing.T) {
	source := rand.New(rand.NewSource(131))
	for range 300 {
		s, target := drawnStore(source), link(99, strings.Fields("root a b c d")[source.Intn(5)]+">t")
		ways := impl.WaysTo(s, target)
		for i, w := range ways {
			for j, other := range ways {
				if impl.SameWay(w, other) != (i == j) {
					t.Fatalf("%s: of %s the ways %d and %d are the same", toldOf(s), toldWays(ways), i, j)
				}
			}
		}
	}
}

// findByHand: the place of the first one that holds, -1 without one; and the code.
func findByHand(t *testing.T, s impl.Store, target impl.Cert, r impl.Rules) (int, int, []impl.Way) {
	t.Helper()
	ways, codes := waysOfRows(rowsByHand(t, s, target), s, target), []int{}
	for i, w := range ways {
		code := codeByHand(t, &trial{a: s.Anchors[w.Anchor], path: w.Path, crls: s.Crls, rules: r})
		if code == 0 {
			return i, 0, ways
		}
		codes = append(codes, code)
	}
	return -1, append(codes, 1)[0], ways
}

// checkFind: the way at this place is found; with -1 none, and why.
func checkFind(t *testing.T, s impl.Store, target impl.Cert, r impl.Rules, place, code int) {
	t.Helper()
	byHand, codeByHand, ways := findByHand(t, s, target, r)
	if byHand != place || codeByHand != code {
		t.Fatalf("%s, %s>%s: the case is none, by hand it is %d, %d, not %d, %d", toldOf(s), target.Issuer, target.Subject, byHand, codeByHand, place, code)
	}
	want := impl.Way{}
	if place >= 0 {
		want = ways[place]
	}
	handed, untouched := guardedStore(s)
	letter, letterUntouched := guardedLetter(target)
	rules, rulesUntouched := r, func() bool { return true }
	rules.Policies, rulesUntouched = guarded(r.Policies)
	got, why := impl.FindWay(handed, letter, rules)
	if why != code || !sameWays(got, want) {
		t.Fatalf("FindWay(%s, %s>%s, %#v) = %s, %d, want %s, %d", toldOf(s), target.Issuer, target.Subject, r, toldWays([]impl.Way{got}), why, toldWays([]impl.Way{want}), code)
	}
	if !untouched() || !letterUntouched() || !rulesUntouched() || !sameLetter(letter, target) {
		t.Fatalf("FindWay(%#v, %#v, %#v) writes into them", s, target, r)
	}
	checkOwnLetters(t, "FindWay", got.Path, append(slices.Clone(handed.Certs), letter)...)
	checkOwnLetters(t, "FindWay", got.Path, handed.Certs...)
}

// signedByName: each letter by the house of its Issuer.
func signedByName(t *testing.T, list ...impl.Cert) []impl.Cert {
	t.Helper()
	signed := []impl.Cert{}
	for _, c := range list {
		signed = append(signed, changed(c, func(c *impl.Cert) { c.Sig = signByLibrary(t, houseOf(c.Issuer), bodyTextByHand(t, *c)) }))
	}
	return signed
}

// search: a store, a target, and what is wanted of a way; all but what was spoilt is signed.
type search struct {
	s      impl.Store
	target impl.Cert
	r      impl.Rules
}

// newSearch: letters told in a line, to which this is done before they are signed.
func newSearch(t *testing.T, anchors, line, target string, do func(find *search)) *search {
	t.Helper()
	find := &search{impl.Store{Certs: links(line), Anchors: anchorsOf(strings.Fields(anchors)...)}, link(99, target), impl.Rules{Time: 20, Usage: impl.UseData}}
	if do != nil {
		do(find)
	}
	find.s.Certs = signedByName(t, find.s.Certs...)
	find.target = signedByName(t, find.target)[0]
	return find
}

func (find *search) check(t *testing.T, place, code int) {
	t.Helper()
	checkFind(t, find.s, find.target, find.r, place, code)
}

func TestFirstWayHolds(t *testing.T) {
	newSearch(t, "root", "", "root>t", nil).check(t, 0, 0)
	newSearch(t, "a root", "", "root>t", nil).check(t, 0, 0)
	newSearch(t, "root", "root>a", "a>t", nil).check(t, 0, 0)
	newSearch(t, "root", "c>d b>c a>b root>a", "d>t", nil).check(t, 0, 0)
	newSearch(t, "root", "root>a root>a root>b b>a", "a>t", nil).check(t, 0, 0)
	newSearch(t, "root org", "org>a root>a", "a>t", nil).check(t, 0, 0)
	newSearch(t, "root org net", "net>a", "a>t", nil).check(t, 0, 0)
}

// TestLaterWayHolds: each of them as the only one that does, by one letter of it that the others have not.
func TestLaterWayHolds(t *testing.T) {
	for at := range 12 {
		newSearch(t, "root", layers("root", 12), "a>t", func(find *search) {
			for i := range find.s.Certs {
				if i != at {
					find.s.Certs[i].To = 15
				}
			}
		}).check(t, at, 0)
	}
	for one := range 3 {
		for other := range 4 {
			for last := range 5 {
				newSearch(t, "root", layers("root", 3, 4, 5), "c>t", func(find *search) {
					for i := range find.s.Certs {
						if i != one && i != 3+other && i != 7+last {
							find.s.Certs[i].Ca = false
						}
					}
				}).check(t, one*20+other*5+last, 0)
			}
		}
	}
	// By another anchor's way.
	for at := range 3 {
		newSearch(t, "root org net", "net>a root>a org>a", "a>t", func(find *search) {
			for i := range find.s.Anchors {
				if i != at {
					find.s.Anchors[i].Key = textOfSize(15)
				}
			}
		}).check(t, at, 0)
	}
	// The longer one, when the shorter one does not hold, and the other way round.
	newSearch(t, "root", "root>b a>b root>a", "b>t", func(find *search) { find.s.Certs[0].From = 21 }).check(t, 1, 0)
	newSearch(t, "root", "root>a a>b root>b", "b>t", func(find *search) { find.s.Certs[0].PathLen = 0 }).check(t, 1, 0)
	newSearch(t, "org root", "org>root", "root>t", func(find *search) { find.s.Certs[0].Usage = 4 }).check(t, 1, 0)
}

// TestNoWayHolds: the code is that of the first one, whatever is wrong with the others.
func TestNoWayHolds(t *testing.T) {
	spoils := []struct {
		code int
		do   func(c *impl.Cert)
	}{
		{impl.PcTime, func(c *impl.Cert) { c.To = 19 }}, {impl.PcName, func(c *impl.Cert) { c.Denies = []string{"t"} }}, {impl.PcCa, func(c *impl.Cert) { c.Ca = false }}, {impl.PcUse, func(c *impl.Cert) { c.Usage = 6 }}, {impl.PcPolicy, func(c *impl.Cert) { c.Policies = nil }}, {impl.PcSig, func(c *impl.Cert) { c.Key = impl.PublicAt(5) }},
	}
	for i, first := range spoils {
		for j, second := range spoils {
			for k, third := range spoils {
				if i == j || j == k {
					continue
				}
				find := newSearch(t, "root", "root>a root>a root>a", "a>t", func(find *search) {
					find.r.Explicit = true
					first.do(&find.s.Certs[0])
					second.do(&find.s.Certs[1])
					third.do(&find.s.Certs[2])
				})
				find.check(t, -1, first.code)
				find.s.Certs = find.s.Certs[1:]
				find.check(t, -1, second.code)
			}
		}
	}
	// What is wrong with the target is wrong with all.
	newSearch(t, "root org", "org>a root>a", "a>t", func(find *search) { find.target.Usage = 3 }).check(t, -1, impl.PcUse)
	newSearch(t, "root org", "org>a root>a", "a>t", func(find *search) { find.r.Time = 91 }).check(t, -1, impl.PcTime)
	newSearch(t, "root org", "org>a root>a", "a>t", func(find *search) { find.s.Anchors[0].Key, find.s.Anchors[1].Key = textOfSize(15), textOfSize(15) }).check(t, -1, impl.PcSig)
	newSearch(t, "root", "root>a a>b b>c", "c>t", func(find *search) { find.s.Certs[0].PathLen = 1 }).check(t, -1, impl.PcLen)
	newSearch(t, "root", "root>a", "a>t", func(find *search) { find.r.Check = true }).check(t, -1, impl.PcGone)
}

// TestRulesOfASearch: those that are not right are PcForm, when there is a way at all.
func TestRulesOfASearch(t *testing.T) {
	for _, turn := range []func(r *impl.Rules){
		func(r *impl.Rules) { r.Time = -1 }, func(r *impl.Rules) { r.Time = 10000 }, func(r *impl.Rules) { r.Usage = 8 }, func(r *impl.Rules) { r.Usage = -1 }, func(r *impl.Rules) { r.Policies = []int{2, 1} }, func(r *impl.Rules) { r.Policies = []int{1, 100} }, func(r *impl.Rules) { r.Policies = []int{1, 2, 3, 4, 5} },
	} {
		newSearch(t, "root org", "org>a root>a", "a>t", func(find *search) { turn(&find.r) }).check(t, -1, impl.PcForm)
		newSearch(t, "root", "", "root>t", func(find *search) { turn(&find.r) }).check(t, -1, impl.PcForm)
		newSearch(t, "root", "", "a>t", func(find *search) { turn(&find.r) }).check(t, -1, impl.PcEmpty)
		newSearch(t, "", "root>a", "a>t", func(find *search) { turn(&find.r) }).check(t, -1, impl.PcEmpty)
	}
	for _, wanted := range []struct {
		policies []int
		place    int
		code     int
	}{{nil, 0, 0}, {[]int{1}, 0, 0}, {[]int{2}, 1, 0}, {[]int{3}, 2, 0}, {[]int{2, 3}, 1, 0}, {[]int{4}, -1, impl.PcPolicy}} {
		newSearch(t, "root", "root>a root>a root>a", "a>t", func(find *search) {
			find.r.Policies, find.target.Policies = wanted.policies, []int{0}
			for i := range find.s.Certs {
				find.s.Certs[i].Policies = []int{i + 1}
			}
		}).check(t, wanted.place, wanted.code)
	}
}

// listOfName: a whole list of this name, signed by its house.
func listOfName(t *testing.T, issuer string, num int, serials ...int) impl.Crl {
	t.Helper()
	x := impl.Crl{Issuer: issuer, Num: num, This: 10, Next: 90}
	for _, serial := range serials {
		x.Revs = append(x.Revs, impl.Rev{Serial: serial, Reason: 1})
	}
	x.Sig = signByLibrary(t, houseOf(issuer), listBodyTextByHand(t, x))
	return x
}

// TestFindWayAsksTheLists: those of the store count.
func TestFindWayAsksTheLists(t *testing.T) {
	find := func(lists ...impl.Crl) *search {
		return newSearch(t, "root org", "root>a root>a org>a", "a>t", func(find *search) { find.r.Check, find.s.Crls = true, lists })
	}
	root, org, a := listOfName(t, "root", 1), listOfName(t, "org", 1), listOfName(t, "a", 1)
	find(root, org, a).check(t, 0, 0)
	find(root, a).check(t, 0, 0)
	find(org, a).check(t, 2, 0)
	find(a).check(t, -1, impl.PcGone)
	find(root, org).check(t, -1, impl.PcGone)
	find(org, a, listOfName(t, "root", 1, 1)).check(t, 1, 0)
	find(org, a, listOfName(t, "root", 1, 2)).check(t, 0, 0)
	find(org, a, listOfName(t, "root", 1, 1, 2)).check(t, 2, 0)
	find(org, a, root, listOfName(t, "root", 2, 1, 2)).check(t, 2, 0)
	find(org, a, listOfName(t, "root", 3), listOfName(t, "root", 2, 1, 2)).check(t, 0, 0)
	find(root, listOfName(t, "org", 9, 1, 2, 3), a).check(t, 0, 0)
	find(listOfName(t, "root", 1, 1, 2), listOfName(t, "org", 9, 1, 2, 3), a).check(t, -1, impl.PcGone)
	find(root, org, listOfName(t, "a", 2, 99)).check(t, -1, impl.PcGone)
	off := find(listOfName(t, "root", 1, 1, 2), org, a)
	off.r.Check = false
	off.check(t, 0, 0)
	// Others' lists of one name.
	forged := changedList(listOfName(t, "root", 9, 1, 2), func(x *impl.Crl) { x.Sig = signByLibrary(t, houseOf("a"), listBodyTextByHand(t, *x)) })
	find(root, forged, a).check(t, 0, 0)
}

// TestWaysBeyondMaxWays: one that holds is found up to the last of MaxWays; what is behind them is none.
func TestWaysBeyondMaxWays(t *testing.T) {
	only := func(first, second, third int) *search {
		return newSearch(t, "root", layers("root", 4, 4, 4), "c>t", func(find *search) {
			for i := range find.s.Certs {
				if i != first && i != 4+second && i != 8+third {
					find.s.Certs[i].To = 15
				}
			}
		})
	}
	only(0, 0, 0).check(t, 0, 0)
	only(3, 2, 3).check(t, 59, 0)
	for third := range 4 {
		only(3, 3, third).check(t, -1, impl.PcTime)
	}
	several := func(at int) *search {
		return newSearch(t, "root org", "root>a root>a org>a org>a a>b a>b a>b a>b b>c b>c b>c b>c", "c>t", func(find *search) {
			find.s.Anchors[0].Key = textOfSize(15)
			find.s.Certs[2].To = 15
			for i := 4; i < 8; i++ {
				if i != 4+at {
					find.s.Certs[i].Usage = 0
				}
			}
		})
	}
	several(0).check(t, 48, 0)
	several(1).check(t, 52, 0)
	several(2).check(t, 56, 0)
	several(3).check(t, -1, impl.PcSig)
}

// drawnSearch: a drawn store, with much that is wrong in it.
func drawnSearch(t *testing.T, source *rand.Rand) *search {
	t.Helper()
	find := &search{drawnStore(source), link(99, strings.Fields("root a b c d")[source.Intn(5)]+">t"), impl.Rules{Time: 20, Check: source.Intn(4) == 0, Explicit: source.Intn(2) == 0, Usage: []int{0, 4, 1}[source.Intn(3)]}}
	for i := range find.s.Certs {
		c := &find.s.Certs[i]
		switch source.Intn(14) {
		case 0:
			c.To = 15
		case 1:
			c.Ca = false
		case 2:
			c.PathLen = source.Intn(2)
		case 3:
			c.Usage = source.Intn(8)
		case 4:
			c.Policies = []int{source.Intn(3)}
		case 5:
			c.Denies = []string{[]string{"t", "a", "c"}[source.Intn(3)]}
		case 6:
			c.Key = impl.PublicAt(source.Intn(impl.Secrets))
		}
	}
	if source.Intn(8) == 0 {
		find.s.Anchors[0].Key = impl.PublicAt(source.Intn(impl.Secrets))
	}
	for i, name := range strings.Fields("root a b c d org net") {
		if find.r.Check && source.Intn(12) > 0 {
			find.s.Crls = append(find.s.Crls, listOfName(t, name, 1+i, slices.Compact(slices.Sorted(slices.Values([]int{source.Intn(40), source.Intn(40)})))...))
		}
	}
	find.s.Certs = signedByName(t, find.s.Certs...)
	find.target = signedByName(t, find.target)[0]
	return find
}

// TestDrawnSearches: promise 13: one that holds is found when there is one.
func TestDrawnSearches(t *testing.T) {
	source := rand.New(rand.NewSource(132))
	places, codes := map[int]int{}, map[int]int{}
	for range 4000 {
		find := drawnSearch(t, source)
		place, code, _ := findByHand(t, find.s, find.target, find.r)
		places[cmp.Compare(place, 0)]++
		codes[code]++
		find.check(t, place, code)
	}
	if places[-1] < 500 || places[0] < 500 || places[1] < 150 || len(codes) < 9 {
		t.Errorf("places %v, codes %v: too few of a kind", places, codes)
	}
}

// TestWaysAreNewMemory: no letter lies in the memory of what was handed in, or of another way.
func TestWaysAreNewMemory(t *testing.T) {
	names, rules := []string{"h", "i", "j", "k"}, []int{0, 1, 2, 3}
	for _, line := range []string{"", "root>a", "root>a root>a a>b a>b", layers("root", 3, 3, 2)} {
		s := impl.Store{Certs: links(line), Anchors: anchorsOf("root", "org")}
		target := link(99, []string{"root", "a", "b", "c"}[len(s.Certs)/2%4]+">t")
		for i := range s.Certs {
			s.Certs[i].Policies, s.Certs[i].Permits, s.Certs[i].Denies = rules[:1+i%4], names[:i%4], names[i%4:]
		}
		target.Policies, target.Denies = rules, names
		want := impl.WaysTo(clonedStore(s), changed(target, func(*impl.Cert) {}))
		first, second := impl.WaysTo(s, target), impl.WaysTo(s, target)
		if len(first) == 0 {
			t.Fatalf("%s: the case is none", line)
		}
		all := []impl.Cert{}
		for i, w := range first {
			checkOwnLetters(t, "WaysTo", w.Path, append(slices.Clone(s.Certs), target)...)
			checkOwnLetters(t, "WaysTo", w.Path, all...)
			for _, other := range append(slices.Clone(first[:i]), second...) {
				if memoryOf(w.Path).meets(memoryOf(other.Path)) {
					t.Fatalf("%s: two ways share memory", line)
				}
			}
			all = append(all, w.Path...)
		}
		for _, w := range first {
			for i := range w.Path {
				spoilLetter(w.Path[i])
			}
			for i := range w.Path[:cap(w.Path)] {
				w.Path[:cap(w.Path)][i] = impl.Cert{Subject: "spoilt"}
			}
		}
		if third := impl.WaysTo(s, target); !slices.EqualFunc(second, want, sameWays) || !slices.EqualFunc(third, want, sameWays) {
			t.Fatalf("%s: WaysTo hands out what it keeps, or its argument", line)
		}
	}
}
