package tests

import (
	"fmt"
	"math"
	"math/rand"
	"runtime"
	"slices"
	"strings"
	"sync"
	"testing"
	"time"

	"loop.example/g00394/impl"
)

func TestLifeConstants(t *testing.T) {
	got := []int{impl.EvAsk, impl.EvServe, impl.EvHear, impl.EvLose, impl.EvTwice, impl.EvSpoil, impl.EvForge, impl.EvTick, impl.EvLearn, impl.EvGone, impl.MaxEvents, impl.MaxNet}
	if !slices.Equal(got, []int{1, 2, 3, 4, 5, 6, 7, 8, 9, 10, 60, 12}) {
		t.Errorf("the kinds, MaxEvents and MaxNet are %d", got)
	}
}

// castBy: a letter told as "root>a", with the key of one house, signed by another one.
func castBy(t *testing.T, serial int, told string, key, by int, change func(c *impl.Cert)) impl.Cert {
	t.Helper()
	c := link(serial, told)
	c.Key = impl.PublicAt(key)
	change(&c)
	c.Sig = signByLibrary(t, by, bodyTextByHand(t, c))
	return c
}

// lifeCast: ca, leaf (asked for under it), sub, deep (under that, of another policy), stray (whose issuer nobody knows), and other (which root signed).
func lifeCast(t *testing.T) []impl.Cert {
	t.Helper()
	last := func(c *impl.Cert) { c.Ca, c.Usage = false, 4 }
	signs := func(c *impl.Cert) {}
	return []impl.Cert{
		castBy(t, 1, "root>ca.org", 1, 0, signs),
		castBy(t, 2, "ca.org>leaf.ca.org", 3, 1, last),
		castBy(t, 3, "ca.org>sub.ca.org", 2, 1, signs),
		castBy(t, 4, "sub.ca.org>deep", 5, 2, func(c *impl.Cert) { last(c); c.Policies = []int{2} }),
		castBy(t, 5, "x>stray", 5, 5, last),
		castBy(t, 6, "root>other.org", 4, 0, last),
	}
}

const (
	ofCa    = 0
	ofLeaf  = 1
	ofSub   = 2
	ofDeep  = 3
	ofStray = 4
	ofOther = 5
)

// ev: an event of this kind, at this place, with this number.
func ev(kind, at, num int) impl.Event { return impl.Event{Kind: kind, At: at, Num: num} }

func forged(at int, text string) impl.Event {
	return impl.Event{Kind: impl.EvForge, At: at, Text: text}
}

// clonedLetters: in memory of their own.
func clonedLetters(list []impl.Cert) []impl.Cert {
	own := slices.Clone(list)
	for i := range own {
		own[i] = changed(own[i], func(*impl.Cert) {})
	}
	return own
}

func clonedWorld(w impl.World) impl.World {
	w.Server, w.Client, w.Cast = clonedServer(w.Server), clonedClient(w.Client), clonedLetters(w.Cast)
	w.Net, w.Codes, w.Posed, w.Asked, w.Told = slices.Clone(w.Net), slices.Clone(w.Codes), slices.Clone(w.Posed), slices.Clone(w.Asked), slices.Clone(w.Told)
	return w
}

// changedWorld: the World with one thing done to it, in memory of its own.
func changedWorld(w impl.World, change func(w *impl.World)) impl.World {
	own := clonedWorld(w)
	change(&own)
	return own
}

// worldsDiffer: what is another in both, in words; empty when nothing is.
func worldsDiffer(a, b impl.World) string {
	told := []string{}
	for _, one := range []struct {
		name string
		same bool
		a, b any
	}{
		{"Server", sameServer(a.Server, b.Server), a.Server, b.Server},
		{"Client", sameClient(a.Client, b.Client), a.Client, b.Client},
		{"Cast", slices.EqualFunc(a.Cast, b.Cast, sameLetter), a.Cast, b.Cast},
		{"Net", slices.Equal(a.Net, b.Net), a.Net, b.Net},
		{"Codes", slices.Equal(a.Codes, b.Codes), a.Codes, b.Codes},
		{"Posed", slices.Equal(a.Posed, b.Posed), a.Posed, b.Posed},
		{"Asked", slices.Equal(a.Asked, b.Asked), a.Asked, b.Asked},
		{"Told", slices.Equal(a.Told, b.Told), a.Told, b.Told},
	} {
		if !one.same {
			told = append(told, fmt.Sprintf("%s: %#v, not %#v", one.name, one.a, one.b))
		}
	}
	return strings.Join(told, "; ")
}

// withRoom: a list with room behind it, and whether all of that is still as it was.
func withRoom[T comparable](list []T, behind T) ([]T, func() bool) {
	room := append(slices.Clone(list), behind, behind, behind)
	before := slices.Clone(room)
	return room[:len(list)], func() bool { return slices.Equal(room, before) }
}

// guardedWorld: w with room behind all of its lists, and whether all of that is still as it was.
func guardedWorld(w impl.World) (impl.World, func() bool) {
	server, serverUntouched := guardedServer(w.Server)
	client, clientUntouched := guardedClient(w.Client)
	cast, castUntouched := guardedLetters(w.Cast)
	net, netUntouched := withRoom(w.Net, impl.Letter{Back: true, Text: "behind"})
	codes, codesUntouched := guarded(w.Codes)
	posed, posedUntouched := withRoom(w.Posed, impl.Pose{Id: 77, Text: "behind"})
	asked, askedUntouched := guardedNames(w.Asked)
	told, toldUntouched := guardedNames(w.Told)
	handed := impl.World{Server: server, Client: client, Cast: cast, Net: net, Codes: codes, Posed: posed, Asked: asked, Told: told}
	return handed, func() bool {
		return serverUntouched() && clientUntouched() && castUntouched() && netUntouched() && codesUntouched() && posedUntouched() && askedUntouched() && toldUntouched() && worldsDiffer(handed, w) == ""
	}
}

// worldMemory: where all lists of a World lie, with the room behind them.
func worldMemory(w impl.World) []stretch {
	list := append(serverMemory(w.Server), clientMemory(w.Client)...)
	list = append(list, memoryOf(w.Cast), memoryOf(w.Net), memoryOf(w.Codes), memoryOf(w.Posed), memoryOf(w.Asked), memoryOf(w.Told))
	for _, c := range w.Cast[:cap(w.Cast)] {
		list = append(list, letterMemory(c)...)
	}
	return slices.DeleteFunc(list, func(one stretch) bool { return one.from == one.to })
}

func worldTexts(w impl.World) []string {
	list := slices.Concat(serverTexts(w.Server), clientTexts(w.Client), w.Asked, w.Told)
	for _, c := range w.Cast {
		list = append(list, letterTexts(c)...)
	}
	for _, l := range w.Net {
		list = append(list, l.Text)
	}
	for _, p := range w.Posed {
		list = append(list, p.Text)
	}
	return list
}

// checkOwnWorld: no list of the answer lies where another one of it does, nor where one of these Worlds has one; nor does a text.
func checkOwnWorld(t *testing.T, name string, answer impl.World, others ...impl.World) {
	t.Helper()
	own, texts := worldMemory(answer), worldTexts(answer)
	for i, one := range own {
		if slices.ContainsFunc(own[:i], one.meets) {
			t.Fatalf("%s: two lists of one answer share memory", name)
		}
	}
	for i, one := range texts {
		checkOwnTexts(t, name, []string{one}, texts[:i])
	}
	for _, other := range others {
		memory := worldMemory(other)
		if slices.ContainsFunc(own, func(one stretch) bool { return slices.ContainsFunc(memory, one.meets) }) {
			t.Fatalf("%s: a list shares memory with an argument, or another answer", name)
		}
		checkOwnTexts(t, name, texts, worldTexts(other))
	}
}

func spoilWorld(w impl.World) {
	spoilServer(w.Server)
	spoilClient(w.Client)
	spoil(w.Codes)
	for _, c := range w.Cast[:cap(w.Cast)] {
		spoilLetter(c)
	}
	for i := range w.Cast[:cap(w.Cast)] {
		w.Cast[:cap(w.Cast)][i] = impl.Cert{Serial: -5}
	}
	for i := range w.Net[:cap(w.Net)] {
		w.Net[:cap(w.Net)][i] = impl.Letter{Text: "spoilt"}
	}
	for i := range w.Posed[:cap(w.Posed)] {
		w.Posed[:cap(w.Posed)][i] = impl.Pose{Id: -5, Text: "spoilt"}
	}
	for _, list := range [][]string{w.Asked, w.Told} {
		for i := range list[:cap(list)] {
			list[:cap(list)][i] = "spoilt"
		}
	}
}

// eventRight: EventOk by hand.
func eventRight(e impl.Event) bool {
	most := 0
	if e.Kind == 7 {
		most = 80
	}
	return slices.Contains([]int{1, 2, 3, 4, 5, 6, 7, 8, 9, 10}, e.Kind) && min(e.At, e.Num) >= 0 && len(e.Text) <= most
}

// newByHand: as the chapter tells it.
func newByHand(cast []impl.Cert) impl.World {
	w := impl.World{Cast: clonedLetters(cast), Client: impl.Client{Key: impl.PublicAt(4), Now: 20}}
	w.Server = impl.Server{House: 4, Now: 20, Fresh: 20, Plans: []impl.Plan{{Id: 0, Anchors: []int{0}}, {Id: 1, Anchors: []int{0}, Rules: impl.Rules{Policies: []int{1}, Explicit: true, Check: true}}}}
	w.Server.Store = impl.Store{Anchors: []impl.Anchor{{Name: "root", Key: impl.PublicAt(0)}}, Certs: slices.DeleteFunc(clonedLetters(cast), func(c impl.Cert) bool { return !c.Ca })}
	return w
}

// between: the letters that are between, with one more, if there is room.
func between(list []impl.Letter, back bool, text string) []impl.Letter {
	if len(list) >= 12 {
		return list
	}
	return append(slices.Clone(list), impl.Letter{Back: back, Text: text})
}

// askedByHand: what is asked in a life, when the code is 0.
func askedByHand(t *testing.T, w *impl.World, e impl.Event) int {
	t.Helper()
	if len(w.Cast) == 0 || !letterRight(w.Cast[e.At%len(w.Cast)]) {
		return 1
	}
	target := textByLibrary(t, letterByHand(t, w.Cast[e.At%len(w.Cast)]))
	id := 1 + len(w.Codes)
	client, text, ok := askNowByHand(t, w.Client, impl.Ask{Targets: []string{target}, Plan: e.Num % 3, Want: e.Num % 4, Cached: e.Num%2 == 0}, id, 30)
	if !ok {
		return 1
	}
	w.Client, w.Posed, w.Net = client, append(w.Posed, impl.Pose{Id: id, Text: text}), between(w.Net, false, text)
	return 0
}

// learntByHand: what the server learns of one of the cast: the letter, or a list that calls it back.
func learntByHand(t *testing.T, w *impl.World, e impl.Event) int {
	t.Helper()
	if len(w.Cast) == 0 {
		return 1
	}
	c, more := w.Cast[e.At%len(w.Cast)], clonedServer(w.Server)
	if more.Kept = nil; e.Kind == 9 {
		more.Store.Certs = append(more.Store.Certs, c)
	} else {
		x := impl.Crl{Issuer: c.Issuer, Num: 1 + e.Num%9, This: more.Now, Next: more.Now + 30, Revs: []impl.Rev{{Serial: c.Serial, Reason: 1}}}
		more.Store.Crls = append(more.Store.Crls, signedListBy(t, e.Num%6, x))
	}
	if !storeRight(t, more.Store) {
		return 1
	}
	w.Server = more
	return 0
}

// carriedByHand: what becomes of the letter at a place, when there is one.
func carriedByHand(t *testing.T, w *impl.World, e impl.Event) int {
	t.Helper()
	if e.At >= len(w.Net) {
		return map[int]int{3: 9}[e.Kind] + map[int]int{2: 1, 4: 1, 5: 1, 6: 1}[e.Kind]
	}
	l, others := w.Net[e.At], slices.Delete(slices.Clone(w.Net), e.At, e.At+1)
	switch {
	case e.Kind == 2 && !l.Back:
		server, said := serveByHand(t, w.Server, l.Text)
		w.Server, w.Asked, w.Told, w.Net = server, append(w.Asked, l.Text), append(w.Told, said), between(others, true, said)
		return 0
	case e.Kind == 2:
		return 1
	case e.Kind == 3 && l.Back:
		client, code := hearByHand(t, w.Client, l.Text)
		w.Client, w.Net = client, others
		return code
	case e.Kind == 3:
		return 9
	case e.Kind == 4:
		w.Net = others
		return 0
	case e.Kind == 5:
		w.Net = between(w.Net, l.Back, l.Text)
		return 0
	case l.Text == "":
		return 1
	}
	at := e.Num % len(l.Text)
	w.Net[e.At].Text = l.Text[:at] + string([]byte{byte((int(l.Text[at]) + 1) % 256)}) + l.Text[at+1:]
	return 0
}

// stepByHand: as the chapter tells it.
func stepByHand(t *testing.T, before impl.World, e impl.Event) impl.World {
	t.Helper()
	w := clonedWorld(before)
	if !eventRight(e) {
		return w
	}
	code := 0
	switch e.Kind {
	case 1:
		code = askedByHand(t, &w, e)
	case 7:
		w.Net = between(w.Net, e.At%2 != 0, e.Text)
	case 8:
		if then := w.Server.Now + e.At%50; then >= w.Server.Now && then <= 9999 {
			w.Server.Now = then
		}
		w.Client, _ = tickByHand(w.Client, e.At%50)
	case 9, 10:
		code = learntByHand(t, &w, e)
	default:
		code = carriedByHand(t, &w, e)
	}
	w.Codes = append(w.Codes, code)
	return w
}

// checkWorldStep: the World is held whole, twice, against the chapter's words by hand, and against memory that is not its own.
func checkWorldStep(t *testing.T, w impl.World, e impl.Event) impl.World {
	t.Helper()
	want := stepByHand(t, w, e)
	name, text := fmt.Sprintf("StepWorld(.., %.200v)", e), strings.Clone(e.Text)
	handed, untouched := guardedWorld(w)
	first, second := impl.StepWorld(handed, e), impl.StepWorld(handed, e)
	for _, got := range []impl.World{first, second} {
		if differ := worldsDiffer(got, want); differ != "" {
			t.Fatalf("%s of %#v: %s", name, w, differ)
		}
	}
	checkOwnWorld(t, name, first, handed, second, impl.World{Asked: []string{e.Text}})
	spoilWorld(first)
	if worldsDiffer(second, want) != "" || !untouched() || e.Text != text {
		t.Fatalf("%s of %#v writes into it, or hands out one memory twice", name, w)
	}
	return second
}

// checkEvent: checkWorldStep of an event that is right, and has this code.
func checkEvent(t *testing.T, w impl.World, e impl.Event, code int) impl.World {
	t.Helper()
	after := checkWorldStep(t, w, e)
	if want := append(slices.Clone(w.Codes), code); !slices.Equal(after.Codes, want) {
		t.Fatalf("%#v: the Codes are %d, want %d", e, after.Codes, want)
	}
	return after
}

// checkRefused: an event that is not right leaves the World as it is.
func checkRefused(t *testing.T, w impl.World, e impl.Event) {
	t.Helper()
	checkEventOk(t, e, false)
	if differ := worldsDiffer(checkWorldStep(t, w, e), w); differ != "" {
		t.Fatalf("%#v is not right, and yet: %s", e, differ)
	}
}

// checkEvents: one by one, with their codes.
func checkEvents(t *testing.T, w impl.World, events []impl.Event, codes ...int) impl.World {
	t.Helper()
	if len(events) != len(codes) {
		t.Fatalf("%d events with %d codes: the case is none", len(events), len(codes))
	}
	for i, e := range events {
		w = checkEvent(t, w, e, codes[i])
	}
	return w
}

func checkWorld(t *testing.T, got, want impl.World) {
	t.Helper()
	if differ := worldsDiffer(got, want); differ != "" {
		t.Fatal(differ)
	}
}

// checkRun: the World and whether it is so are held whole, twice, against the chapter's words by hand, and beside StepWorld of each event.
func checkRun(t *testing.T, cast []impl.Cert, events []impl.Event, want bool) impl.World {
	t.Helper()
	wrongLetter, wrongEvent := func(c impl.Cert) bool { return !letterRight(c) }, func(e impl.Event) bool { return !eventRight(e) }
	ok := len(events) <= 60 && len(cast) <= 8 && !slices.ContainsFunc(cast, wrongLetter) && !slices.ContainsFunc(events, wrongEvent)
	if ok != want {
		t.Fatalf("%#v, %#v: the case is none, by hand it is %v", cast, events, ok)
	}
	byHand, steps := impl.World{}, impl.World{}
	if ok {
		byHand, steps = newByHand(cast), impl.WorldNew(cast)
		for _, e := range events {
			byHand, steps = stepByHand(t, byHand, e), impl.StepWorld(steps, e)
		}
	}
	letters, lettersUntouched := guardedLetters(cast)
	handed, eventsUntouched := withRoom(events, forged(1, "behind"))
	first, can := impl.RunWorld(letters, handed)
	second, again := impl.RunWorld(letters, handed)
	if can != ok || again != ok {
		t.Fatalf("RunWorld(%#v, %#v) tells %v, then %v, want %v", cast, events, can, again, ok)
	}
	checkWorld(t, first, byHand)
	checkWorld(t, second, byHand)
	checkWorld(t, steps, byHand)
	texts := []string{}
	for _, e := range handed {
		texts = append(texts, e.Text)
	}
	checkOwnWorld(t, "RunWorld", first, second, impl.World{Cast: letters, Asked: texts})
	spoilWorld(first)
	if worldsDiffer(second, byHand) != "" || !lettersUntouched() || !eventsUntouched() || !slices.EqualFunc(letters, cast, sameLetter) || !slices.Equal(handed, events) {
		t.Fatalf("RunWorld(%#v, %#v) writes into them, or hands out one memory twice", cast, events)
	}
	return second
}

func checkEventOk(t *testing.T, e impl.Event, want bool) {
	t.Helper()
	if eventRight(e) != want {
		t.Fatalf("%#v: the case is none, by hand it is %v", e, !want)
	}
	if got := impl.EventOk(e); got != want {
		t.Fatalf("EventOk(%#v) = %v, want %v", e, got, want)
	}
}

func TestEventOk(t *testing.T) {
	for kind := -3; kind < 16; kind++ {
		right := kind >= 1 && kind <= 10
		checkEventOk(t, impl.Event{Kind: kind}, right)
		for _, n := range edgeNumbers() {
			checkEventOk(t, ev(kind, n, 0), right && n >= 0)
			checkEventOk(t, ev(kind, 0, n), right && n >= 0)
			checkEventOk(t, ev(kind, n, n), right && n >= 0)
			checkEventOk(t, ev(kind, n, -1), false)
			checkEventOk(t, ev(kind, -1, n), false)
		}
		for _, size := range []int{1, 2, 40, 79, 80, 81, 82, 160, 256, 336, 20000} {
			for _, text := range []string{textOfSize(size), strings.Repeat("\x00", size), strings.Repeat("\xff", size)} {
				e := impl.Event{Kind: kind, Text: text}
				checkEventOk(t, e, kind == 7 && size <= 80)
				e.At = -1
				checkEventOk(t, e, false)
			}
		}
	}
	for _, kind := range edgeNumbers() {
		checkEventOk(t, impl.Event{Kind: kind}, kind >= 1 && kind <= 10)
		checkEventOk(t, impl.Event{Kind: kind, Text: "x"}, kind == 7)
	}
}

// checkNew: held whole, against the chapter's words by hand, and against memory that is not its own.
func checkNew(t *testing.T, cast []impl.Cert) impl.World {
	t.Helper()
	want := newByHand(cast)
	handed, untouched := guardedLetters(cast)
	first, second := impl.WorldNew(handed), impl.WorldNew(handed)
	checkWorld(t, first, want)
	checkWorld(t, second, want)
	checkOwnWorld(t, "WorldNew", first, second, impl.World{Cast: handed})
	spoilWorld(first)
	if worldsDiffer(second, want) != "" || !untouched() || !slices.EqualFunc(handed, cast, sameLetter) {
		t.Fatalf("WorldNew(%#v) writes into it, or hands out one memory twice", cast)
	}
	return second
}

func TestWorldNew(t *testing.T) {
	cast := lifeCast(t)
	w := checkNew(t, cast)
	if known := w.Server.Store.Certs; len(known) != 2 || !sameLetter(known[0], cast[ofCa]) || !sameLetter(known[1], cast[ofSub]) || len(w.Cast) != 6 {
		t.Fatalf("the server knows %#v", known)
	}
	checkServerOk(t, w.Server, true)
	plan := w.Server.Plans[1]
	if w.Server.House != 4 || w.Server.Now != 20 || w.Server.Fresh != 20 || w.Client.Now != 20 || w.Client.Key != impl.PublicAt(4) || len(w.Server.Plans) != 2 || plan.Id != 1 || !plan.Rules.Check || !plan.Rules.Explicit || !slices.Equal(plan.Rules.Policies, []int{1}) {
		t.Fatalf("%#v", w)
	}
	for count := range cast {
		checkNew(t, cast[:count])
		checkNew(t, cast[count:])
	}
	// Every letter that is Ca is known, right or not, and however many there are.
	allLists([]impl.Cert{someLetter(), bareLetter(), fullLetter(), {Ca: true}, {}}, 3, func(cast []impl.Cert) { checkNew(t, cast) })
	checkNew(t, nil)
	checkNew(t, []impl.Cert{})
	for _, count := range []int{8, 9, 12, 13, 100} {
		if w := checkNew(t, manyOf(count, otherLetter)); len(w.Server.Store.Certs) != count {
			t.Fatalf("of %d letters %d are known", count, len(w.Server.Store.Certs))
		}
	}
	// What else a letter tells is no matter.
	for _, change := range smallChanges() {
		checkNew(t, []impl.Cert{changed(someLetter(), change), changed(fullLetter(), change)})
	}
}

// lifeAsk: the text of the question that is asked for this letter in a life.
func lifeAsk(t *testing.T, c impl.Cert, num, nonce int) string {
	t.Helper()
	return askOf(t, impl.Ask{Targets: []string{textByLibrary(t, letterByHand(t, c))}, Plan: num % 3, Want: num % 4, Nonce: nonce, Cached: num%2 == 0})
}

// TestLifeOfOneQuestion: what there is after each of its events, told field by field.
func TestLifeOfOneQuestion(t *testing.T) {
	cast := lifeCast(t)
	text := lifeAsk(t, cast[ofLeaf], 3, 1)
	path := []string{textByLibrary(t, letterByHand(t, cast[ofCa])), textByLibrary(t, letterByHand(t, cast[ofLeaf]))}
	reply := signedByHouse(t, 4, impl.Reply{Hash: digestByLibrary(text), Nonce: 1, Time: 20, Next: 40, Answers: []impl.Answer{{Path: path}}})
	said := wholeReply(t, reply)

	w := checkNew(t, cast)
	want := changedWorld(w, func(w *impl.World) {
		w.Codes, w.Posed, w.Net = []int{0}, []impl.Pose{{Id: 1, Text: text}}, []impl.Letter{{Text: text}}
		w.Client.Waits = []impl.Wait{{Id: 1, Sent: 1, Text: text, Due: 50}}
	})
	w = checkEvent(t, w, ev(impl.EvAsk, ofLeaf, 3), 0)
	checkWorld(t, w, want)

	want.Codes, want.Net = []int{0, 0}, []impl.Letter{{Back: true, Text: said}}
	want.Asked, want.Told = []string{text}, []string{said}
	w = checkEvent(t, w, ev(impl.EvServe, 0, 0), 0)
	checkWorld(t, w, want)

	want.Codes, want.Net = []int{0, 0, 0}, nil
	want.Client.Waits, want.Client.Gots = nil, []impl.Got{{Id: 1, Reply: reply}}
	w = checkEvent(t, w, ev(impl.EvHear, 0, 0), 0)
	checkWorld(t, w, want)

	want.Codes = []int{0, 0, 0, 9, 1, 0}
	want.Server.Now, want.Client.Now = 25, 25
	w = checkEvents(t, w, []impl.Event{ev(impl.EvHear, 0, 0), ev(impl.EvServe, 0, 0), ev(impl.EvTick, 5, 0)}, 9, 1, 0)
	checkWorld(t, w, want)
	checkWorld(t, checkRun(t, cast, []impl.Event{ev(1, ofLeaf, 3), ev(2, 0, 0), ev(3, 0, 0), ev(3, 0, 0), ev(2, 0, 0), ev(8, 5, 0)}, true), want)
}

// TestLifeOfAQuestionThatIsKept: it goes by the Nonce 0, and the server keeps what it says.
func TestLifeOfAQuestionThatIsKept(t *testing.T) {
	cast := lifeCast(t)
	text := lifeAsk(t, cast[ofLeaf], 6, 0)
	reply := signedByHouse(t, 4, impl.Reply{Hash: digestByLibrary(text), Time: 20, Next: 40, Answers: []impl.Answer{{}}})
	said := wholeReply(t, reply)
	once := []impl.Event{ev(impl.EvAsk, ofLeaf, 6), ev(impl.EvServe, 0, 0), ev(impl.EvHear, 0, 0)}
	w := checkEvents(t, checkNew(t, cast), once, 0, 0, 0)
	want := changedWorld(checkNew(t, cast), func(w *impl.World) {
		w.Codes, w.Posed, w.Asked, w.Told = []int{0, 0, 0}, []impl.Pose{{Id: 1, Text: text}}, []string{text}, []string{said}
		w.Client.Gots, w.Server.Kept = []impl.Got{{Id: 1, Reply: reply}}, []impl.Kept{{Ask: text, Reply: said, Until: 40}}
	})
	checkWorld(t, w, want)
	// Asked again, at 40, it is told the same; at 41 it isn't.
	w = checkEvents(t, w, append([]impl.Event{ev(impl.EvTick, 20, 0)}, once...), 0, 0, 0, 0)
	if !slices.Equal(w.Told, []string{said, said}) || !slices.Equal(w.Posed, []impl.Pose{{Id: 1, Text: text}, {Id: 5, Text: text}}) {
		t.Fatalf("Told %q, Posed %#v", w.Told, w.Posed)
	}
	w = checkEvents(t, w, append([]impl.Event{ev(impl.EvTick, 1, 0)}, once...), 0, 0, 0, 0)
	if w.Told[2] == said || w.Server.Kept[0].Until != 61 || len(w.Server.Kept) != 1 {
		t.Fatalf("Told %q, Kept %#v", w.Told, w.Server.Kept)
	}
	checkIds(t, w.Client, nil, []int{1, 5, 9}, nil)
}

// TestLivesInAnotherOrder: several questions, served and heard in another order than they were asked in.
func TestLivesInAnotherOrder(t *testing.T) {
	cast := lifeCast(t)
	asks := []impl.Event{ev(impl.EvAsk, ofLeaf, 3), ev(impl.EvAsk, ofDeep, 9), ev(impl.EvAsk, ofStray, 0), ev(impl.EvAsk, ofCa, 7)}
	w := checkEvents(t, checkNew(t, cast), asks, 0, 0, 0, 0)
	checkIds(t, w.Client, []int{1, 2, 3, 4}, nil, nil)
	// The third, first, fourth and second are served; what is said lies behind what is asked.
	w = checkEvents(t, w, []impl.Event{ev(impl.EvServe, 2, 0), ev(impl.EvServe, 0, 0), ev(impl.EvServe, 1, 0), ev(impl.EvServe, 0, 0)}, 0, 0, 0, 0)
	posed := []string{w.Posed[2].Text, w.Posed[0].Text, w.Posed[3].Text, w.Posed[1].Text}
	if !slices.Equal(w.Asked, posed) || len(w.Net) != 4 || slices.ContainsFunc(w.Net, func(l impl.Letter) bool { return !l.Back }) {
		t.Fatalf("Asked %q, between %#v", w.Asked, w.Net)
	}
	for i, l := range w.Net {
		if l.Text != w.Told[i] {
			t.Fatalf("between is %#v, Told %q", w.Net, w.Told)
		}
	}
	// Heard are those of the second, third, first and fourth.
	w = checkEvents(t, w, []impl.Event{ev(impl.EvHear, 3, 0), ev(impl.EvHear, 0, 0), ev(impl.EvHear, 0, 0), ev(impl.EvHear, 0, 0)}, 0, 0, 0, 0)
	checkIds(t, w.Client, nil, []int{2, 3, 1, 4}, nil)
	told := map[int]string{1: "0/0 root>ca.org ca.org>leaf.ca.org", 2: "0/0 root>ca.org ca.org>sub.ca.org sub.ca.org>deep", 3: "1/1", 4: "1/6"}
	for id, want := range told {
		if got := toldAnswer(t, checkGot(t, w.Client, id, true).Answers[0]); got != want {
			t.Fatalf("of %d: %q, want %q", id, got, want)
		}
	}
	// One that is served amid others, and one that comes back amid those that are not served yet.
	w = checkEvents(t, checkNew(t, cast), []impl.Event{ev(impl.EvAsk, ofLeaf, 3), ev(impl.EvAsk, ofDeep, 9), ev(impl.EvServe, 0, 0), ev(impl.EvAsk, ofCa, 1), ev(impl.EvServe, 1, 0), ev(impl.EvHear, 0, 0), ev(impl.EvHear, 1, 0), ev(impl.EvServe, 1, 0), ev(impl.EvServe, 0, 0)}, 0, 0, 0, 0, 1, 9, 0, 0, 0)
	checkIds(t, w.Client, []int{2, 4}, []int{1}, nil)
	for i, l := range w.Net {
		if !l.Back || l.Text != w.Told[1+i] {
			t.Fatalf("between is %#v, Told %q", w.Net, w.Told)
		}
	}
	checkEvents(t, w, []impl.Event{ev(impl.EvHear, 1, 0), ev(impl.EvHear, 0, 0)}, 0, 0)
}

// TestAllSmallLives: each row of at most four of a few events.
func TestAllSmallLives(t *testing.T) {
	cast := lifeCast(t)[:2]
	few := []impl.Event{ev(1, 1, 3), ev(1, 1, 0), ev(2, 0, 0), ev(3, 0, 0), ev(4, 0, 0), ev(5, 0, 0), ev(6, 0, 7), ev(8, 31, 0)}
	codes := map[string]int{}
	allLists(few, 4, func(events []impl.Event) {
		w := checkRun(t, cast, events, true)
		for i, code := range w.Codes {
			codes[fmt.Sprint(events[i].Kind, "/", code)]++
		}
	})
	if len(codes) < 10 {
		t.Errorf("%v: too few", codes)
	}
}

// TestAsksOfALife: which letter is asked for, by which plan, and what is wanted.
func TestAsksOfALife(t *testing.T) {
	cast := lifeCast(t)
	w := checkNew(t, cast)
	for num := range 26 {
		for _, at := range []int{0, 1, 5, 6, 7, 11, 12, 600, 601} {
			after := checkEvent(t, w, ev(impl.EvAsk, at, num), 0)
			a := readAskBack(t, after.Posed[0].Text)
			nonce := num % 2
			want := impl.Ask{Targets: []string{textByLibrary(t, letterByHand(t, cast[at%6]))}, Plan: num % 3, Want: num % 4, Nonce: nonce, Cached: nonce == 0}
			if !sameAsk(a, want) || after.Posed[0].Id != 1 || after.Client.Waits[0].Due != 50 {
				t.Fatalf("asked is %#v, want %#v; %#v", a, want, after.Client.Waits)
			}
		}
	}
	for _, n := range edgeNumbers() {
		if n >= 0 {
			checkEvent(t, w, ev(impl.EvAsk, n, n), 0)
			checkEvent(t, w, ev(impl.EvAsk, n, 1), 0)
			checkEvent(t, w, ev(impl.EvAsk, 1, n), 0)
		}
	}
	// The Id is one more than how many Codes there are, whatever these are.
	for _, count := range []int{0, 1, 2, 59, 60, 100, 700} {
		w.Codes = make([]int, count)
		after := checkEvent(t, w, ev(impl.EvAsk, 1, 1), 0)
		checkIds(t, after.Client, []int{count + 1}, nil, nil)
		if after.Posed[0].Id != count+1 || after.Client.Waits[0].Sent != count+1 {
			t.Fatalf("%#v", after.Client.Waits)
		}
	}
}

// TestAsksThatCannotBe: the code is 1, and nothing is asked.
func TestAsksThatCannotBe(t *testing.T) {
	cast, ask := lifeCast(t), ev(impl.EvAsk, ofLeaf, 3)
	w := checkEvents(t, checkNew(t, cast), slices.Repeat([]impl.Event{ask}, 6), 0, 0, 0, 0, 1, 1)
	checkIds(t, w.Client, []int{1, 2, 3, 4}, nil, nil)
	if len(w.Posed) != 4 || len(w.Net) != 4 {
		t.Fatalf("Posed %#v, between %#v", w.Posed, w.Net)
	}
	// One is heard, and there is room.
	w = checkEvents(t, w, []impl.Event{ev(impl.EvServe, 2, 0), ask, ev(impl.EvHear, 3, 0), ask, ask}, 0, 1, 0, 0, 1)
	checkIds(t, w.Client, []int{1, 2, 4, 10}, []int{3}, nil)
	// Those that are Late wait no more.
	w = checkEvents(t, w, []impl.Event{ev(impl.EvTick, 31, 0), ask}, 0, 0)
	checkIds(t, w.Client, []int{13}, []int{3}, []int{1, 2, 4, 10})
	for _, none := range []impl.World{checkNew(t, nil), changedWorld(w, func(w *impl.World) { w.Cast = nil }), changedWorld(w, func(w *impl.World) { w.Cast = []impl.Cert{} })} {
		for _, n := range []int{0, 1, 2, 3, 700} {
			after := checkEvent(t, none, ev(impl.EvAsk, n, n), 1)
			if len(after.Posed) != len(none.Posed) || len(after.Net) != len(none.Net) || !sameClient(after.Client, none.Client) {
				t.Fatalf("without a cast %#v is Posed, %#v between", after.Posed, after.Net)
			}
		}
	}
	// The longest letter can be asked for, one that is not right can't.
	checkEvents(t, checkNew(t, []impl.Cert{fullLetter(), bareLetter()}), []impl.Event{ev(impl.EvAsk, 0, 1), ev(impl.EvAsk, 1, 1)}, 0, 0)
	for _, c := range wrongLetters() {
		checkEvents(t, checkNew(t, []impl.Cert{c, bareLetter()}), []impl.Event{ev(impl.EvAsk, 0, 1), ev(impl.EvAsk, 1, 1)}, 1, 0)
	}
	// An Id that waits, or was Got, already, and a client beyond its time.
	for _, change := range []func(w *impl.World){
		func(w *impl.World) { w.Client.Waits = waitsFrom(8, 1) }, func(w *impl.World) { w.Client.Gots = []impl.Got{{Id: 8}} }, func(w *impl.World) { w.Client.Now = 100000 }, func(w *impl.World) { w.Client.Now = -1 },
	} {
		v := changedWorld(checkNew(t, cast), change)
		v.Codes = make([]int, 7)
		checkEvent(t, v, ask, 1)
	}
}

// TestWhatIsServedAndHeard: the letter must be there, and go that way.
func TestWhatIsServedAndHeard(t *testing.T) {
	cast := lifeCast(t)
	w := checkEvents(t, checkNew(t, cast), []impl.Event{ev(impl.EvAsk, ofLeaf, 3), ev(impl.EvAsk, ofDeep, 3), ev(impl.EvServe, 0, 0), ev(impl.EvAsk, ofSub, 1)}, 0, 0, 0, 0)
	for at, back := range []bool{false, true, false} {
		serve, hear := 0, 9
		if back {
			serve, hear = 1, 0
		}
		for _, num := range []int{0, 1, 700} {
			served := checkEvent(t, w, ev(impl.EvServe, at, num), serve)
			heard := checkEvent(t, w, ev(impl.EvHear, at, num), hear)
			if len(served.Told)+len(heard.Client.Gots) != 2-len(w.Client.Gots)*serve || len(served.Net) != 3 || len(heard.Net) != 3-serve {
				t.Fatalf("at %d Told %q, Got %#v", at, served.Told, heard.Client.Gots)
			}
		}
	}
	for _, n := range edgeNumbers() {
		if n > 2 {
			if after := checkEvent(t, w, ev(impl.EvServe, n, 0), 1); len(after.Net) != 3 || len(after.Asked) != 1 {
				t.Fatalf("served at %d: %#v", n, after)
			}
			checkEvent(t, w, ev(impl.EvHear, n, 0), 9)
		}
	}
	none := checkNew(t, cast)
	checkEvents(t, none, []impl.Event{ev(impl.EvServe, 0, 0), ev(impl.EvHear, 0, 0), ev(impl.EvServe, 1, 0), ev(impl.EvHear, 1, 0)}, 1, 9, 1, 9)
	// Whatever is handed to the server it was Asked, and Told something of it.
	for _, text := range append(noAsks(t), "", lifeAsk(t, cast[ofLeaf], 4, 0), lifeAsk(t, cast[ofCa], 5, 700)) {
		one := changedWorld(none, func(w *impl.World) { w.Net = []impl.Letter{{Text: text}} })
		after := checkEvent(t, one, ev(impl.EvServe, 0, 0), 0)
		if !slices.Equal(after.Asked, []string{text}) || len(after.Told) != 1 || !slices.Equal(after.Net, []impl.Letter{{Back: true, Text: after.Told[0]}}) {
			t.Fatalf("Asked %q, Told %q, between %#v", after.Asked, after.Told, after.Net)
		}
		checkEvent(t, one, ev(impl.EvHear, 0, 0), 9)
	}
}

// TestHeardCodes: each code of what is heard, by letters of others.
func TestHeardCodes(t *testing.T) {
	cast := lifeCast(t)
	w := checkEvents(t, checkNew(t, cast), []impl.Event{ev(impl.EvAsk, ofLeaf, 3), ev(impl.EvAsk, ofLeaf, 0)}, 0, 0)
	mine, cached := w.Posed[0].Text, w.Posed[1].Text
	counts := map[int]int{}
	for _, one := range []struct {
		text string
		code int
	}{
		{"", 1}, {"x", 1}, {mine, 1}, {wholeReply(t, told(t, mine, 1, 4)) + "x", 1},
		{wholeReply(t, told(t, mine, 1, 3)), 2}, {wholeReply(t, told(t, "x", 5, 0)), 2},
		{wholeReply(t, told(t, mine, 2, 4)), 3}, {wholeReply(t, told(t, cached, 2, 4)), 3},
		{wholeReply(t, told(t, mine, 0, 4)), 4}, {wholeReply(t, told(t, cached, 1, 4)), 4}, {wholeReply(t, told(t, "", 0, 4)), 4},
		{wholeReply(t, told(t, mine, 1, 4)), 0}, {wholeReply(t, told(t, cached, 0, 4)), 0},
	} {
		for place := range 3 {
			heard := changedWorld(w, func(w *impl.World) {
				w.Net = slices.Insert(w.Net, place, impl.Letter{Back: true, Text: one.text})
			})
			after := checkEvent(t, heard, ev(impl.EvHear, place, 0), one.code)
			if !slices.Equal(after.Net, w.Net) || len(after.Client.Gots) != map[int]int{0: 1}[one.code] {
				t.Fatalf("between is %#v, Got %#v", after.Net, after.Client.Gots)
			}
			counts[one.code]++
		}
	}
	// What was heard once, nobody waits for any more.
	w = checkEvents(t, w, []impl.Event{ev(impl.EvServe, 0, 0), ev(impl.EvTwice, 1, 0), ev(impl.EvHear, 1, 0), ev(impl.EvHear, 1, 0)}, 0, 0, 0, 3)
	if len(counts) != 5 || len(w.Net) != 1 {
		t.Fatalf("%v, %#v", counts, w.Net)
	}
}

// threeBetween: letters of both kinds.
func threeBetween(t *testing.T) impl.World {
	t.Helper()
	return changedWorld(checkNew(t, lifeCast(t)), func(w *impl.World) {
		w.Net = []impl.Letter{{Text: "first"}, {Back: true, Text: "second"}, {Text: "last"}}
	})
}

func TestLostAndTwice(t *testing.T) {
	w := threeBetween(t)
	first, second, last := w.Net[0], w.Net[1], w.Net[2]
	for at, want := range [][2][]impl.Letter{
		{{second, last}, {first, second, last, first}}, {{first, last}, {first, second, last, second}}, {{first, second}, {first, second, last, last}},
	} {
		for _, num := range []int{0, 1, 700} {
			if lost := checkEvent(t, w, ev(impl.EvLose, at, num), 0); !slices.Equal(lost.Net, want[0]) {
				t.Fatalf("%d is lost: %#v", at, lost.Net)
			}
			if twice := checkEvent(t, w, ev(impl.EvTwice, at, num), 0); !slices.Equal(twice.Net, want[1]) {
				t.Fatalf("%d is there twice: %#v", at, twice.Net)
			}
		}
	}
	for _, n := range edgeNumbers() {
		if n > 2 {
			checkWorld(t, checkEvent(t, w, ev(impl.EvLose, n, 0), 1), changedWorld(w, func(w *impl.World) { w.Codes = []int{1} }))
			checkWorld(t, checkEvent(t, w, ev(impl.EvTwice, n, 0), 1), changedWorld(w, func(w *impl.World) { w.Codes = []int{1} }))
		}
	}
	none := checkEvents(t, w, []impl.Event{ev(impl.EvLose, 2, 0), ev(impl.EvLose, 0, 0), ev(impl.EvLose, 0, 0), ev(impl.EvLose, 0, 0), ev(impl.EvTwice, 0, 0)}, 0, 0, 0, 1, 1)
	if len(none.Net) != 0 {
		t.Fatalf("%#v", none.Net)
	}
	// A question that is there twice is served twice, and heard once.
	w = checkEvents(t, checkNew(t, lifeCast(t)), []impl.Event{ev(impl.EvAsk, ofLeaf, 3), ev(impl.EvTwice, 0, 0), ev(impl.EvServe, 1, 0), ev(impl.EvServe, 0, 0), ev(impl.EvHear, 1, 0), ev(impl.EvHear, 0, 0)}, 0, 0, 0, 0, 0, 3)
	if len(w.Posed) != 1 || len(w.Asked) != 2 || w.Asked[0] != w.Asked[1] || w.Told[0] != w.Told[1] {
		t.Fatalf("%#v", w)
	}
}

// checkSpoilt: the byte at the place is one more, and no other byte of any letter.
func checkSpoilt(t *testing.T, w impl.World, at, num, place int) impl.World {
	t.Helper()
	after := checkEvent(t, w, ev(impl.EvSpoil, at, num), 0)
	bytes := []byte(w.Net[at].Text)
	bytes[place]++
	want := changedWorld(w, func(w *impl.World) { w.Codes, w.Net[at].Text = append(w.Codes, 0), string(bytes) })
	checkWorld(t, after, want)
	return after
}

func TestSpoiltLetters(t *testing.T) {
	w := threeBetween(t)
	w.Net = append(w.Net, impl.Letter{Back: true, Text: "\xff\x00\xfe\x7f\x80\xff"}, impl.Letter{Text: "\xff"}, impl.Letter{Text: ""}, impl.Letter{Back: true}, impl.Letter{Text: textOfSize(4000)})
	for at, l := range w.Net {
		size := len(l.Text)
		if size == 0 {
			for _, num := range []int{0, 1, 5, math.MaxInt} {
				checkWorld(t, checkEvent(t, w, ev(impl.EvSpoil, at, num), 1), changedWorld(w, func(w *impl.World) { w.Codes = []int{1} }))
			}
			continue
		}
		for _, place := range []int{0, 1, 2, size / 2, size - 2, size - 1} {
			if place >= 0 && place < size {
				for _, often := range []int{0, 1, 2, 100000} {
					checkSpoilt(t, w, at, place+often*size, place)
				}
			}
		}
		checkSpoilt(t, w, at, size, 0)
		checkSpoilt(t, w, at, math.MaxInt, math.MaxInt%size)
	}
	for _, n := range edgeNumbers() {
		if n >= len(w.Net) {
			checkWorld(t, checkEvent(t, w, ev(impl.EvSpoil, n, 0), 1), changedWorld(w, func(w *impl.World) { w.Codes = []int{1} }))
		}
	}
	// Byte by byte, all bytes.
	all := make([]byte, 256)
	for i := range all {
		all[i] = byte(i)
	}
	w.Net = []impl.Letter{{Text: string(all)}}
	for i := range all {
		after := checkSpoilt(t, w, 0, i, i)
		if got := after.Net[0].Text[i]; int(got) != (i+1)%256 {
			t.Fatalf("the byte %d becomes %d", i, got)
		}
	}
	// Spoilt 256 times it is what it was.
	w = changedWorld(checkNew(t, nil), func(w *impl.World) { w.Net = []impl.Letter{{Text: "abc"}} })
	for range 256 {
		w = impl.StepWorld(w, ev(impl.EvSpoil, 0, 1))
	}
	if w.Net[0].Text != "abc" || len(w.Codes) != 256 {
		t.Fatalf("%#v", w.Net)
	}
}

// TestWhatIsHeardOfSpoiltAnswers: at each byte an answer is spoilt, it is not believed.
func TestWhatIsHeardOfSpoiltAnswers(t *testing.T) {
	for _, num := range []int{3, 6} {
		w := checkEvents(t, checkNew(t, lifeCast(t)), []impl.Event{ev(impl.EvAsk, ofLeaf, num), ev(impl.EvServe, 0, 0)}, 0, 0)
		codes := map[int]int{}
		for place := range w.Net[0].Text {
			spoilt := impl.StepWorld(w, ev(impl.EvSpoil, 0, place))
			_, code := hearByHand(t, w.Client, spoilt.Net[0].Text)
			after := checkEvent(t, spoilt, ev(impl.EvHear, 0, 0), code)
			checkIds(t, after.Client, []int{1}, nil, nil)
			codes[code]++
		}
		if codes[0] != 0 || codes[1] < 20 || codes[2] < 40 || len(codes) != 2 {
			t.Errorf("%v", codes)
		}
		// Another one, that is not spoilt, is still heard.
		last := len(w.Net[0].Text) - 1
		checkEvents(t, w, []impl.Event{ev(impl.EvTwice, 0, 0), ev(impl.EvSpoil, 0, last), ev(impl.EvHear, 0, 0), ev(impl.EvHear, 0, 0)}, 0, 0, 2, 0)
	}
}

// TestWhatIsSaidToSpoiltQuestions: an answer of its own, which nobody waits for.
func TestWhatIsSaidToSpoiltQuestions(t *testing.T) {
	for _, num := range []int{3, 6} {
		w := checkEvent(t, checkNew(t, lifeCast(t)), ev(impl.EvAsk, ofLeaf, num), 0)
		codes := map[string]int{}
		for place := range w.Net[0].Text {
			served := impl.StepWorld(impl.StepWorld(w, ev(impl.EvSpoil, 0, place)), ev(impl.EvServe, 0, 0))
			if text := served.Asked[0]; text == w.Posed[0].Text || len(served.Told) != 1 {
				t.Fatalf("Asked %q, Told %q", served.Asked, served.Told)
			}
			r := readReplyBack(t, served.Told[0])
			_, code := hearByHand(t, w.Client, served.Told[0])
			after := checkEvent(t, served, ev(impl.EvHear, 0, 0), code)
			checkIds(t, after.Client, []int{1}, nil, nil)
			codes[fmt.Sprint(r.Error, "/", code)]++
		}
		// With its Nonce, or that of all that are Cached, it is for another question; without it, nobody's.
		want := map[int][]string{3: {"0/3", "0/4", "1/3"}, 6: {"0/4", "1/4"}}[num]
		for _, kind := range want {
			if codes[kind] == 0 {
				t.Errorf("%v: none of %s", codes, kind)
			}
		}
	}
	w := checkEvents(t, checkNew(t, lifeCast(t)), []impl.Event{ev(impl.EvAsk, ofLeaf, 3), ev(impl.EvSpoil, 0, 0), ev(impl.EvServe, 0, 0), ev(impl.EvHear, 0, 0)}, 0, 0, 0, 3)
	if r := readReplyBack(t, w.Told[0]); r.Error != impl.ErrForm || r.Hash != digestByLibrary(w.Asked[0]) || len(r.Answers) != 0 || w.Asked[0][1:] != w.Posed[0].Text[1:] {
		t.Fatalf("%#v", r)
	}
}

func TestForgedLetters(t *testing.T) {
	w := threeBetween(t)
	for _, text := range []string{"", "x", "\x00", "\xff", textOfSize(79), textOfSize(80), strings.Repeat("\xff", 80)} {
		for _, at := range []int{0, 1, 2, 3, 60, 61, math.MaxInt, math.MaxInt - 1} {
			for _, num := range []int{0, 1, math.MaxInt} {
				e := forged(at, text)
				e.Num = num
				after := checkEvent(t, w, e, 0)
				checkWorld(t, after, changedWorld(w, func(w *impl.World) {
					w.Codes, w.Net = []int{0}, append(w.Net, impl.Letter{Back: at%2 == 1, Text: text})
				}))
			}
		}
	}
	for _, size := range []int{81, 82, 160, 20000} {
		checkRefused(t, w, forged(0, textOfSize(size)))
		checkRefused(t, w, forged(1, textOfSize(size)))
	}
	// The server is asked, and the client hears, what was forged.
	w = checkEvents(t, checkNew(t, lifeCast(t)), []impl.Event{forged(0, "asked"), forged(1, "said"), ev(impl.EvServe, 0, 0), ev(impl.EvHear, 0, 0), ev(impl.EvHear, 0, 0), forged(1, ""), ev(impl.EvHear, 0, 0)}, 0, 0, 0, 1, 3, 0, 1)
	if r := readReplyBack(t, w.Told[0]); !slices.Equal(w.Asked, []string{"asked"}) || r.Error != impl.ErrForm || len(w.Posed) != 0 {
		t.Fatalf("%#v", w)
	}
}

func TestTimeOfALife(t *testing.T) {
	w := checkEvents(t, checkNew(t, lifeCast(t)), []impl.Event{ev(impl.EvAsk, ofLeaf, 3), ev(impl.EvTick, 10, 0), ev(impl.EvAsk, ofLeaf, 0)}, 0, 0, 0)
	for _, at := range []int{0, 1, 20, 21, 30, 31, 48, 49, 50, 51, 99, 100, 149, 9999, 10000, math.MaxInt} {
		for _, num := range []int{0, 1, 700} {
			after := checkEvent(t, w, ev(impl.EvTick, at, num), 0)
			if after.Server.Now != 30+at%50 || after.Client.Now != 30+at%50 {
				t.Fatalf("at %d it is %d, and %d", at, after.Server.Now, after.Client.Now)
			}
			late := []int{}
			if at%50 > 20 {
				late = append(late, 1)
			}
			if at%50 > 30 {
				late = append(late, 3)
			}
			checkIds(t, after.Client, []int{1, 3}[len(late):], nil, late)
		}
	}
	// Who comes too late is not heard.
	w = checkEvents(t, w, []impl.Event{ev(impl.EvServe, 0, 0), ev(impl.EvServe, 0, 0), ev(impl.EvTick, 21, 0), ev(impl.EvHear, 0, 0), ev(impl.EvHear, 0, 0)}, 0, 0, 0, 3, 0)
	checkIds(t, w.Client, nil, []int{3}, []int{1})
	// One whose time is at its end stays there, and the other one goes on.
	for _, one := range []struct{ server, client, at, thenServer, thenClient int }{
		{9950, 20, 49, 9999, 69}, {9951, 20, 49, 9951, 69}, {9999, 20, 0, 9999, 20}, {9999, 20, 1, 9999, 21}, {10000, 20, 0, 10000, 20}, {10000, 20, 1, 10000, 21},
		{20, 99950, 49, 69, 99999}, {20, 99951, 49, 69, 99951}, {20, 99999, 1, 21, 99999}, {20, 100000, 0, 20, 100000}, {9999, 99999, 49, 9999, 99999}, {math.MaxInt, math.MaxInt, 49, math.MaxInt, math.MaxInt}, {-5, -7, 3, -2, -4}, {math.MinInt, math.MinInt, 1, math.MinInt + 1, math.MinInt + 1},
	} {
		v := changedWorld(w, func(w *impl.World) { w.Server.Now, w.Client.Now = one.server, one.client })
		after := checkEvent(t, v, ev(impl.EvTick, one.at, 0), 0)
		if after.Server.Now != one.thenServer || after.Client.Now != one.thenClient {
			t.Fatalf("%#v: it is %d, and %d", one, after.Server.Now, after.Client.Now)
		}
	}
}

func TestWhatALifeLearns(t *testing.T) {
	cast := lifeCast(t)
	w := checkEvents(t, checkNew(t, cast), []impl.Event{ev(impl.EvAsk, ofLeaf, 0), ev(impl.EvServe, 0, 0)}, 0, 0)
	if len(w.Server.Kept) != 1 {
		t.Fatalf("%#v", w.Server.Kept)
	}
	for _, at := range []int{0, 1, 2, 3, 4, 5, 6, 7, 601, math.MaxInt} {
		for _, num := range []int{0, 1, 700} {
			c := cast[at%6]
			known := c.Ca
			after := checkEvent(t, w, ev(impl.EvLearn, at, num), map[bool]int{true: 1}[known])
			if got := after.Server.Store.Certs; len(got) == 2 != known || len(after.Server.Kept) == 1 != known || !known && !sameLetter(got[2], c) {
				t.Fatalf("learnt is %#v, Kept %#v", got, after.Server.Kept)
			}
			checkEvent(t, after, ev(impl.EvLearn, at, num), 1)
		}
	}
	// Till there is no room.
	many := manyOf(14, otherLetter)
	for i := range many {
		many[i].Ca = i < 2
	}
	v := checkNew(t, many)
	for i := range many {
		v = checkEvent(t, v, ev(impl.EvLearn, i, 0), map[bool]int{true: 1}[i < 2 || i > 11])
	}
	if len(v.Server.Store.Certs) != 12 {
		t.Fatalf("%d are known", len(v.Server.Store.Certs))
	}
	for _, c := range wrongLetters() {
		checkEvent(t, changedWorld(w, func(w *impl.World) { w.Cast = []impl.Cert{c} }), ev(impl.EvLearn, 0, 0), 1)
	}
	for _, kind := range []int{impl.EvLearn, impl.EvGone} {
		for _, n := range []int{0, 1, 6, 700} {
			none := changedWorld(w, func(w *impl.World) { w.Cast = nil })
			checkWorld(t, checkEvent(t, none, ev(kind, n, n), 1), changedWorld(none, func(w *impl.World) { w.Codes = append(w.Codes, 1) }))
		}
	}
}

// TestWhatIsCalledBackInALife: the list that the server hears of, told whole.
func TestWhatIsCalledBackInALife(t *testing.T) {
	cast := lifeCast(t)
	w := checkEvents(t, checkNew(t, cast), []impl.Event{ev(impl.EvAsk, ofLeaf, 0), ev(impl.EvServe, 0, 0), ev(impl.EvTick, 3, 0)}, 0, 0, 0)
	w.Client.Now = 700
	for _, num := range []int{0, 1, 2, 3, 4, 5, 6, 7, 8, 9, 10, 17, 18, 19, 35, 36, 53, 54, 700, math.MaxInt, math.MaxInt - 1} {
		for at := range 8 {
			c := cast[at%6]
			x := signedListBy(t, num%6, impl.Crl{Issuer: c.Issuer, Num: num%9 + 1, This: 23, Next: 53, Revs: []impl.Rev{{Serial: c.Serial, Reason: 1}}})
			after := checkEvent(t, w, ev(impl.EvGone, at, num), 0)
			checkWorld(t, after, changedWorld(w, func(w *impl.World) {
				w.Codes, w.Server.Kept, w.Server.Store.Crls = append(w.Codes, 0), nil, []impl.Crl{x}
			}))
			checkEvent(t, after, ev(impl.EvGone, at, num), 1)
		}
	}
	// Till there is no room.
	v := w
	for num := range 10 {
		v = checkEvent(t, v, ev(impl.EvGone, ofLeaf, num), map[bool]int{true: 1}[num > 7])
	}
	// Its times must be told, too.
	for _, one := range []struct{ now, code int }{{9968, 0}, {9969, 0}, {9970, 1}, {9999, 1}, {10000, 1}, {0, 0}, {-1, 1}, {-30, 1}, {math.MaxInt, 1}, {math.MaxInt - 29, 1}, {math.MinInt, 1}} {
		checkEvent(t, changedWorld(w, func(w *impl.World) { w.Server.Now = one.now }), ev(impl.EvGone, ofLeaf, 1), one.code)
	}
	for _, change := range []func(c *impl.Cert){func(c *impl.Cert) { c.Issuer = "" }, func(c *impl.Cert) { c.Issuer = "A" }, func(c *impl.Cert) { c.Serial = -1 }, func(c *impl.Cert) { c.Serial = 10000 }} {
		checkEvent(t, changedWorld(w, func(w *impl.World) { w.Cast = []impl.Cert{changed(cast[1], change)} }), ev(impl.EvGone, 0, 1), 1)
	}
	// What else is wrong with a letter that is called back, is no matter.
	for _, change := range []func(c *impl.Cert){func(c *impl.Cert) { c.Subject = "" }, func(c *impl.Cert) { c.Key = "" }, func(c *impl.Cert) { c.Usage = 8 }} {
		checkEvent(t, changedWorld(w, func(w *impl.World) { w.Cast = []impl.Cert{changed(cast[1], change)} }), ev(impl.EvGone, 0, 1), 0)
	}
}

// askedThus: what is told, at the end of these events, of this letter by the plan 1.
func askedThus(t *testing.T, at int, events ...impl.Event) string {
	t.Helper()
	// Plan 1, Want 3, not Cached.
	events = append(events, ev(impl.EvAsk, at, 7), ev(impl.EvServe, 0, 0), ev(impl.EvHear, 0, 0))
	w := checkRun(t, lifeCast(t), events, true)
	if len(w.Client.Gots) != 1 {
		t.Fatalf("%#v: the Codes are %d", events, w.Codes)
	}
	return toldAnswer(t, w.Client.Gots[0].Reply.Answers[0])
}

// TestWhatCountsInALife: what was learnt, and called back, is what is told then.
func TestWhatCountsInALife(t *testing.T) {
	// House 0 signs for root, house 1 for ca.org.
	root, ca, byOther, late := ev(impl.EvGone, ofOther, 6), ev(impl.EvGone, ofSub, 7), ev(impl.EvGone, ofSub, 8), ev(impl.EvTick, 31, 0)
	for _, one := range []struct {
		at     int
		events []impl.Event
		told   string
	}{
		{ofLeaf, nil, "1/6"},
		{ofLeaf, []impl.Event{root}, "1/6"},
		{ofLeaf, []impl.Event{root, ca}, "0/0 root>ca.org ca.org>leaf.ca.org root7 ca.org8"},
		{ofLeaf, []impl.Event{ca, root}, "0/0 root>ca.org ca.org>leaf.ca.org root7 ca.org8"},
		{ofSub, []impl.Event{root, ca}, "1/6"},
		{ofOther, []impl.Event{root, ca}, "1/6"},
		{ofCa, []impl.Event{root}, "0/0 root>ca.org root7"},
		{ofLeaf, []impl.Event{root, ca, ev(impl.EvGone, ofCa, 0)}, "0/0 root>ca.org ca.org>leaf.ca.org root7 ca.org8"},
		{ofLeaf, []impl.Event{root, ca, ev(impl.EvGone, ofLeaf, 1)}, "0/0 root>ca.org ca.org>leaf.ca.org root7 ca.org8"},
		// A list of a greater Num; and one of which the Num is no greater.
		{ofLeaf, []impl.Event{ev(impl.EvGone, ofOther, 0), ca, ev(impl.EvGone, ofCa, 6)}, "1/6"},
		{ofLeaf, []impl.Event{root, byOther}, "1/6"},
		{ofLeaf, []impl.Event{root, ca, ev(impl.EvTick, 30, 0)}, "0/0 root>ca.org ca.org>leaf.ca.org root7 ca.org8"},
		{ofLeaf, []impl.Event{root, ca, late}, "1/6"},
		{ofLeaf, []impl.Event{root, late, root, ca}, "0/0 root>ca.org ca.org>leaf.ca.org root7 ca.org8"},
		{ofDeep, []impl.Event{root, ca, ev(impl.EvGone, ofDeep, 2)}, "1/6"},
		{ofStray, []impl.Event{root, ca}, "1/1"},
	} {
		if got := askedThus(t, one.at, one.events...); got != one.told {
			t.Errorf("of %d behind %v: %q, want %q", one.at, one.events, got, one.told)
		}
	}
}

// TestHowMuchIsBetween: what has no room is lost, and who sent it knows nothing of that.
func TestHowMuchIsBetween(t *testing.T) {
	cast, ask := lifeCast(t), ev(impl.EvAsk, ofLeaf, 3)
	fill := func(count int) impl.World {
		return checkRun(t, cast, manyOf(count, func(i int) impl.Event { return forged(i, fmt.Sprint(i)) }), true)
	}
	for _, count := range []int{10, 11, 12, 13, 14, 60} {
		w := fill(count)
		if held := min(count, 12); len(w.Net) != held || w.Net[held-1].Text != fmt.Sprint(held-1) || slices.Max(w.Codes) != 0 {
			t.Fatalf("of %d forged %#v is between; %d", count, w.Net, w.Codes)
		}
	}
	one := fill(11)
	for _, e := range []impl.Event{ask, ev(impl.EvTwice, 3, 0), forged(1, "x")} {
		last := checkEvent(t, one, e, 0)
		if len(last.Net) != 12 || !slices.Equal(last.Net[:11], one.Net) {
			t.Fatalf("%#v: between is %#v", e, last.Net)
		}
		for _, e := range []impl.Event{ask, ev(impl.EvTwice, 3, 0), ev(impl.EvTwice, 11, 0), forged(1, "y"), forged(0, "")} {
			lost := checkEvent(t, last, e, 0)
			if !slices.Equal(lost.Net, last.Net) {
				t.Fatalf("%#v: between is %#v", e, lost.Net)
			}
			if e.Kind == impl.EvAsk && (len(lost.Posed) != len(last.Posed)+1 || len(lost.Client.Waits) != len(last.Client.Waits)+1) {
				t.Fatalf("Posed %#v, waits %#v", lost.Posed, lost.Client.Waits)
			}
		}
		// Of a full dozen one is served: what is said has its room.
		served := checkEvent(t, last, ev(impl.EvServe, 0, 0), 0)
		if len(served.Net) != 12 || served.Net[11] != (impl.Letter{Back: true, Text: served.Told[0]}) {
			t.Fatalf("between is %#v", served.Net)
		}
		checkEvents(t, last, []impl.Event{ev(impl.EvLose, 5, 0), forged(1, "y"), forged(1, "z"), ev(impl.EvHear, 11, 0), ev(impl.EvHear, 11, 0)}, 0, 0, 0, 1, 9)
	}
	// Where more is between than a life lets be: what is said is lost, too, and nothing else.
	more := changedWorld(fill(12), func(w *impl.World) {
		w.Net = append(w.Net, impl.Letter{Text: "m"}, impl.Letter{Back: true, Text: "n"})
	})
	served := checkEvent(t, more, ev(impl.EvServe, 12, 0), 0)
	if len(served.Net) != 13 || served.Net[12].Text != "n" || !slices.Equal(served.Asked, []string{"m"}) || len(served.Told) != 1 {
		t.Fatalf("between is %#v", served.Net)
	}
	for _, e := range []impl.Event{ask, forged(1, "x"), ev(impl.EvTwice, 13, 0), ev(impl.EvTick, 5, 0)} {
		if after := checkEvent(t, more, e, 0); !slices.Equal(after.Net, more.Net) {
			t.Fatalf("%#v: between is %#v", e, after.Net)
		}
	}
	if after := checkEvent(t, more, ev(impl.EvSpoil, 13, 0), 0); after.Net[13].Text != "o" {
		t.Fatalf("%#v", after.Net)
	}
}

// wrongEvents: each is not right.
func wrongEvents() []impl.Event {
	list := []impl.Event{ev(0, 0, 0), ev(11, 0, 0), ev(-1, 0, 0), ev(12, 1, 1), ev(257, 1, 1), ev(math.MinInt, 0, 0), ev(math.MaxInt, 0, 0), {}, forged(0, textOfSize(81)), forged(-1, "x"), {Kind: 7, Num: -1, Text: "x"}, {Kind: 0, Text: "x"}, {Kind: 11, Text: "x"}}
	for kind := 1; kind <= 10; kind++ {
		list = append(list, ev(kind, -1, 0), ev(kind, 0, -1), ev(kind, math.MinInt, 0), ev(kind, 1, math.MinInt), ev(kind, -1, -1))
		if kind != 7 {
			list = append(list, impl.Event{Kind: kind, Text: "x"}, impl.Event{Kind: kind, At: 1, Num: 1, Text: "\x00"}, impl.Event{Kind: kind, Text: textOfSize(80)})
		}
	}
	return list
}

func TestEventsThatAreNotRight(t *testing.T) {
	cast := lifeCast(t)
	right := []impl.Event{ev(impl.EvAsk, ofLeaf, 3), ev(impl.EvServe, 0, 0), ev(impl.EvHear, 0, 0)}
	w := checkEvents(t, checkNew(t, cast), right[:2], 0, 0)
	for _, e := range wrongEvents() {
		checkRefused(t, w, e)
		checkRefused(t, impl.World{}, e)
		for place := range len(right) + 1 {
			checkRun(t, cast, slices.Insert(slices.Clone(right), place, e), false)
		}
		checkRun(t, nil, []impl.Event{e}, false)
	}
	for _, place := range []int{0, 30, 59} {
		events := slices.Repeat([]impl.Event{ev(impl.EvTick, 1, 0)}, 60)
		events[place] = ev(impl.EvTick, -1, 0)
		checkRun(t, cast, events, false)
	}
}

func TestHowManyEvents(t *testing.T) {
	cast := lifeCast(t)
	for _, count := range []int{0, 1, 2, 59, 60, 61, 62, 120, 1000} {
		w := checkRun(t, cast, slices.Repeat([]impl.Event{ev(impl.EvTick, 49, 0)}, count), count <= 60)
		if count <= 60 && (len(w.Codes) != count || w.Server.Now != 20+49*count) {
			t.Fatalf("%d events: %d codes, Now %d", count, len(w.Codes), w.Server.Now)
		}
		checkRun(t, nil, manyOf(count, func(i int) impl.Event { return ev(impl.EvAsk, i, i) }), count <= 60)
	}
	// A step is none too many, whatever came ahead of it.
	w := checkRun(t, cast, slices.Repeat([]impl.Event{ev(impl.EvTick, 1, 0)}, 60), true)
	w = checkEvents(t, w, []impl.Event{ev(impl.EvAsk, ofLeaf, 3), ev(impl.EvServe, 0, 0), ev(impl.EvHear, 0, 0)}, 0, 0, 0)
	checkIds(t, w.Client, nil, []int{61}, nil)
}

func TestHowManyOfTheCast(t *testing.T) {
	for _, count := range []int{0, 1, 2, 7, 8, 9, 10, 12, 13, 100} {
		cast := manyOf(count, otherLetter)
		events := []impl.Event{ev(impl.EvAsk, count-1+min(count, 1)*count, 3), ev(impl.EvServe, 0, 0), ev(impl.EvLearn, 8, 0)}
		if count == 0 {
			events[0].At = 0
		}
		w := checkRun(t, cast, events, count <= 8)
		if count <= 8 && len(w.Cast) != count {
			t.Fatalf("%d of the cast: %#v", count, w)
		}
		checkRun(t, cast, nil, count <= 8)
		// A step asks not how many there are.
		checkEvent(t, checkNew(t, cast), ev(impl.EvAsk, 2*count+1, 3), map[bool]int{true: 1}[count == 0])
	}
	for _, c := range wrongLetters() {
		for place := range 8 {
			cast := manyOf(7, otherLetter)
			checkRun(t, slices.Insert(cast, place, c), []impl.Event{ev(impl.EvTick, 1, 0)}, false)
		}
		checkRun(t, []impl.Cert{c}, nil, false)
	}
	// Several faults together, and none.
	long, wrong := slices.Repeat([]impl.Event{ev(impl.EvTick, 1, 0)}, 61), []impl.Event{ev(0, 0, 0)}
	for _, cast := range [][]impl.Cert{manyOf(9, otherLetter), {{}}, lifeCast(t)} {
		checkRun(t, cast, long, false)
		checkRun(t, cast, wrong, false)
		checkRun(t, cast, append(slices.Clone(long), wrong...), false)
	}
	checkRun(t, nil, nil, true)
	checkRun(t, []impl.Cert{}, []impl.Event{}, true)
}

// TestCastsWithOneLetterTwice: both stand in the store, which is not right then: no way is found in it.
func TestCastsWithOneLetterTwice(t *testing.T) {
	cast := lifeCast(t)
	w := checkRun(t, append(cast, cast[ofCa]), []impl.Event{ev(impl.EvAsk, ofLeaf, 3), ev(impl.EvServe, 0, 0), ev(impl.EvHear, 0, 0), ev(impl.EvLearn, ofOther, 0)}, true)
	if !slices.Equal(w.Codes, []int{0, 0, 0, 1}) || toldAnswer(t, w.Client.Gots[0].Reply.Answers[0]) != "1/1" || len(w.Server.Store.Certs) != 3 {
		t.Fatalf("%d: %#v", w.Codes, w.Client.Gots)
	}
}

// someWorld: one with something in each list, as no life makes it.
func someWorld(t *testing.T) impl.World {
	t.Helper()
	w := impl.World{
		Server: someServer(t), Client: someClient(t), Cast: lifeCast(t), Codes: []int{0, 9, 1, -5, 700},
		Net:   []impl.Letter{{Text: waits(t)[1].Text}, {Back: true, Text: toldTo(t, waits(t)[0])}, {}, {Back: true}, {Text: "x"}, {Back: true, Text: wholeReply(t, told(t, "x", 6, 4))}},
		Posed: []impl.Pose{{Id: 700, Text: "a"}, {Id: -1, Text: "b"}, {}}, Asked: []string{"a", "", "c"}, Told: []string{"d", "e"},
	}
	w.Server.Kept, w.Server.Store.Crls = keptOf(2), w.Server.Store.Crls[:6]
	return w
}

// handMadeWorlds: as no life makes them.
func handMadeWorlds(t *testing.T) []impl.World {
	t.Helper()
	list := []impl.World{{}, someWorld(t), checkNew(t, nil), checkNew(t, []impl.Cert{{}, fullLetter()})}
	for _, change := range []func(w *impl.World){
		func(w *impl.World) { w.Net = nil }, func(w *impl.World) { w.Net = slices.Repeat(w.Net, 2) }, func(w *impl.World) { w.Net = slices.Repeat(w.Net, 3) }, func(w *impl.World) { w.Net = slices.Repeat(w.Net, 20) },
		func(w *impl.World) { w.Codes = nil }, func(w *impl.World) { w.Codes = make([]int, 100) }, func(w *impl.World) { w.Codes = make([]int, 699) }, func(w *impl.World) { w.Codes = make([]int, 7) },
		func(w *impl.World) { w.Cast = nil }, func(w *impl.World) { w.Cast = append(manyOf(20, otherLetter), wrongLetters()...) }, func(w *impl.World) { w.Cast = []impl.Cert{{}} }, func(w *impl.World) { w.Cast = slices.Repeat(w.Cast, 2) },
		func(w *impl.World) { w.Posed, w.Asked, w.Told = nil, nil, nil }, func(w *impl.World) {
			w.Posed, w.Asked, w.Told = slices.Repeat(w.Posed, 40), slices.Repeat(w.Asked, 40), slices.Repeat(w.Told, 40)
		},
		func(w *impl.World) { w.Server = impl.Server{} }, func(w *impl.World) { w.Client = impl.Client{} }, func(w *impl.World) { w.Server.House = 6 }, func(w *impl.World) { w.Server.House = 3 }, func(w *impl.World) { w.Client.Waits = waitsFrom(1, 3) }, func(w *impl.World) { w.Client.Waits = slices.Repeat(w.Client.Waits, 3) },
	} {
		list = append(list, changedWorld(someWorld(t), change))
	}
	for i, v := range wrongServers(t) {
		if i%3 == 0 {
			list = append(list, changedWorld(someWorld(t), func(w *impl.World) { w.Server = v }))
		}
	}
	for i, c := range wrongClients(t) {
		if i%3 == 1 {
			list = append(list, changedWorld(someWorld(t), func(w *impl.World) { w.Client = c }))
		}
	}
	return list
}

// TestWorldsMadeByHand: each event is answered, whatever the World is.
func TestWorldsMadeByHand(t *testing.T) {
	events := []impl.Event{forged(0, "x"), forged(1, textOfSize(80)), ev(8, 0, 0), ev(8, 49, 0), ev(0, 0, 0), ev(4, -1, 0)}
	for _, kind := range []int{1, 9, 10} {
		events = append(events, ev(kind, 0, 0), ev(kind, 1, 1), ev(kind, 3, 7), ev(kind, 21, 8))
	}
	for _, kind := range []int{2, 3, 4, 5, 6} {
		for at := range 7 {
			events = append(events, ev(kind, at, 4000+at))
		}
		events = append(events, ev(kind, 12, 0), ev(kind, 13, 0), ev(kind, 119, 0), ev(kind, math.MaxInt, math.MaxInt))
	}
	codes := map[string]int{}
	for _, w := range handMadeWorlds(t) {
		for _, e := range events {
			after := checkWorldStep(t, w, e)
			if eventRight(e) {
				codes[fmt.Sprint(e.Kind, "/", after.Codes[len(after.Codes)-1])]++
			}
		}
	}
	for _, kind := range strings.Fields("1/0 1/1 2/0 2/1 3/0 3/1 3/2 3/3 3/4 3/9 4/0 4/1 5/0 5/1 6/0 6/1 7/0 8/0 9/0 9/1 10/0 10/1") {
		if codes[kind] < 3 {
			t.Errorf("%v: too few of %s", codes, kind)
		}
	}
}

// TestGreatWorlds: they are answered, too, and soon.
func TestGreatWorlds(t *testing.T) {
	many := 60000
	w := impl.World{
		Net:   manyOf(many, func(i int) impl.Letter { return impl.Letter{Back: i%2 == 1, Text: fmt.Sprint(i)} }),
		Codes: make([]int, many), Posed: make([]impl.Pose, many), Asked: make([]string, many), Told: make([]string, many), Cast: manyOf(300, otherLetter),
	}
	for _, e := range []impl.Event{ev(1, 5, 3), ev(2, 58, 0), ev(3, 59, 0), ev(4, 7, 0), ev(5, 7, 0), ev(6, 7, 0), forged(1, "x"), ev(8, 9, 0), ev(9, 9, 0), ev(10, 9, 0), ev(4, 60000, 0), ev(0, 0, 0)} {
		checkWorld(t, impl.StepWorld(w, e), stepByHand(t, w, e))
	}
	for _, one := range []struct {
		cast   []impl.Cert
		events []impl.Event
	}{{make([]impl.Cert, many), nil}, {nil, make([]impl.Event, many)}, {nil, slices.Repeat([]impl.Event{ev(8, 1, 0)}, many)}} {
		if got, ok := impl.RunWorld(one.cast, one.events); ok || worldsDiffer(got, impl.World{}) != "" {
			t.Fatalf("%v: %#v", ok, got)
		}
	}
}

// drawnEvent: of all kinds, so that most of them find something to do.
func drawnEvent(source *rand.Rand, w impl.World) impl.Event {
	at := source.Intn(len(w.Net) + 2)
	switch source.Intn(24) {
	case 0, 1, 2, 3, 4, 5:
		return ev(impl.EvAsk, source.Intn(9), source.Intn(14))
	case 6, 7, 8, 9, 10:
		return ev(impl.EvServe, at, source.Intn(3))
	case 11, 12, 13, 14, 15:
		return ev(impl.EvHear, at, source.Intn(3))
	case 16:
		return ev(impl.EvLose, at, 0)
	case 17:
		return ev(impl.EvTwice, at, 0)
	case 18, 19:
		return ev(impl.EvSpoil, at, source.Intn(900))
	case 20:
		return forged(source.Intn(4), textOfSize(source.Intn(81)))
	case 21:
		return ev(impl.EvTick, source.Intn(60), 0)
	case 22:
		return ev(impl.EvLearn, source.Intn(9), 0)
	}
	return ev(impl.EvGone, source.Intn(9), source.Intn(18))
}

// checkLived: promise 18 in a life: what is Got was Posed by its Id, and signed; what was handed to the server was told of; what waits is as it was asked.
func checkLived(t *testing.T, w impl.World) {
	t.Helper()
	for _, g := range w.Client.Gots {
		posed := slices.IndexFunc(w.Posed, func(p impl.Pose) bool { return p.Id == g.Id })
		if posed < 0 || digestByLibrary(w.Posed[posed].Text) != g.Reply.Hash || !sigOkByLibrary(impl.PublicAt(4), replyBodyTextByHand(t, g.Reply), g.Reply.Sig) || !slices.Contains(w.Told, wholeReply(t, g.Reply)) {
			t.Fatalf("Got is %#v, Posed %#v", g, w.Posed)
		}
	}
	if len(w.Asked) != len(w.Told) || len(w.Net) > 12 || len(w.Codes) > 60 {
		t.Fatalf("%#v", w)
	}
	checkKept(t, w.Server)
}

// TestDrawnLives: promise 19: in a drawn life codes are what the document tells.
func TestDrawnLives(t *testing.T) {
	source := rand.New(rand.NewSource(19))
	codes := map[string]int{}
	for range 40 {
		cast, events := lifeCast(t), []impl.Event{}
		source.Shuffle(len(cast), func(i, j int) { cast[i], cast[j] = cast[j], cast[i] })
		cast = cast[:source.Intn(3)*3%7]
		if source.Intn(8) > 0 {
			cast = append(lifeCast(t)[:2], cast...)[:min(8, 2+len(cast))]
			if source.Intn(4) > 0 {
				cast = lifeCast(t)
			}
		}
		w := checkNew(t, cast)
		for range 60 {
			e := drawnEvent(source, w)
			w = checkWorldStep(t, w, e)
			events = append(events, e)
			codes[fmt.Sprint(e.Kind, "/", w.Codes[len(w.Codes)-1])]++
		}
		checkLived(t, w)
		checkWorld(t, checkRun(t, cast, events, true), w)
	}
	for _, kind := range strings.Fields("1/0 1/1 2/0 2/1 3/0 3/1 3/2 3/3 3/4 3/9 4/0 4/1 5/0 5/1 6/0 6/1 7/0 8/0 9/0 9/1 10/0 10/1") {
		if codes[kind] < 3 {
			t.Errorf("%v: too few of %s", codes, kind)
		}
	}
}

// TestWorldsFromOneMemory: lists and texts that lie in one memory are each handed out in one of their own.
func TestWorldsFromOneMemory(t *testing.T) {
	text, numbers, names := waits(t)[0].Text, []int{0, 1, 2}, []string{"a", "b.org", "c"}
	w := someWorld(t)
	w.Cast = []impl.Cert{someLetter(), someLetter(), fullLetter()}
	for i := range w.Cast {
		w.Cast[i].Policies, w.Cast[i].Permits, w.Cast[i].Denies = numbers, names, names[:i]
	}
	w.Server.Store.Certs = w.Cast[:2]
	w.Codes, w.Client.Late = numbers, numbers[1:]
	w.Asked, w.Told = names, names[1:]
	w.Net = []impl.Letter{{Text: text}, {Back: true, Text: text[3:]}, {Text: text}}
	w.Posed = []impl.Pose{{Id: 1, Text: text}, {Id: 2, Text: text[5:]}}
	w.Client.Waits[0].Text, w.Server.Kept[0] = text, impl.Kept{Ask: text, Reply: text, Until: 50}
	want := clonedWorld(w)
	steps := map[string]func() impl.World{
		"WorldNew": func() impl.World { return impl.WorldNew(w.Cast) },
		"RunWorld": func() impl.World {
			v, _ := impl.RunWorld(w.Cast, []impl.Event{ev(1, 1, 3), ev(5, 0, 0), ev(2, 0, 0), ev(5, 1, 0), ev(3, 1, 0)})
			return v
		},
		"refused": func() impl.World { return impl.StepWorld(w, ev(0, 0, 0)) },
	}
	for kind := 1; kind <= 10; kind++ {
		for at := range 4 {
			steps[fmt.Sprint("kind ", kind, " at ", at)] = func() impl.World { return impl.StepWorld(w, ev(kind, at, 7)) }
		}
	}
	for name, step := range steps {
		first, second := step(), step()
		kept := clonedWorld(second)
		checkOwnWorld(t, name, first, w, second)
		spoilWorld(first)
		if worldsDiffer(w, want) != "" || worldsDiffer(second, kept) != "" || worldsDiffer(step(), kept) != "" {
			t.Fatalf("%s hands out what it keeps, or its argument", name)
		}
	}
}

// TestEmptyListsOfWorlds: nil, and lists of nothing, are the same; neither is handed on.
func TestEmptyListsOfWorlds(t *testing.T) {
	net, codes, posed, asked, cast := make([]impl.Letter, 3), make([]int, 3), make([]impl.Pose, 3), make([]string, 3), make([]impl.Cert, 3)
	empty := impl.World{Net: net[:0], Codes: codes[:0], Posed: posed[:0], Asked: asked[:0], Told: asked[:0], Cast: cast[:0]}
	for _, w := range []impl.World{{}, {Net: []impl.Letter{}, Codes: []int{}, Posed: []impl.Pose{}, Asked: []string{}, Told: []string{}, Cast: []impl.Cert{}}, empty} {
		for kind := range 12 {
			after := impl.StepWorld(w, ev(kind, 0, 0))
			checkWorld(t, checkWorldStep(t, w, ev(kind, 0, 0)), after)
			after.Net, after.Codes, after.Posed, after.Asked, after.Told, after.Cast = append(after.Net, impl.Letter{Back: true}), append(after.Codes, 7), append(after.Posed, impl.Pose{Id: 7}), append(after.Asked, "x"), append(after.Told, "x"), append(after.Cast, impl.Cert{Serial: 7})
			if net[0].Back || codes[0] != 0 || posed[0].Id != 0 || asked[0] != "" || cast[0].Serial != 0 {
				t.Fatal("the room behind an empty list is handed out")
			}
		}
	}
}

// manyEvents: a life of all kinds.
func manyEvents() []impl.Event {
	return []impl.Event{ev(1, 1, 3), ev(1, 3, 0), forged(1, "x"), ev(2, 0, 0), ev(2, 0, 0), ev(5, 1, 0), ev(6, 1, 60), ev(3, 3, 0), ev(3, 1, 0), ev(9, 5, 0), ev(10, 5, 6), ev(8, 7, 0), ev(1, 1, 6), ev(4, 0, 0), ev(2, 1, 0), ev(3, 0, 0)}
}

// TestLivesAtOnce: many may live at once, and each is told the same. What is handed in is nobody's any more, when there is an answer.
func TestLivesAtOnce(t *testing.T) {
	cast, events := lifeCast(t), manyEvents()
	want := checkRun(t, cast, events, true)
	wrong := make([]int, 16)
	var all sync.WaitGroup
	for i := range wrong {
		all.Go(func() {
			for range 3 {
				own := slices.Clone(events)
				first, ok := impl.RunWorld(cast, own)
				for j := range own {
					own[j] = impl.Event{Kind: -1, Text: "spoilt"}
				}
				second := impl.WorldNew(cast)
				for _, e := range events {
					second = impl.StepWorld(second, e)
				}
				_, refused := impl.RunWorld(cast, own)
				if !ok || refused || worldsDiffer(first, want) != "" || worldsDiffer(second, want) != "" {
					wrong[i]++
				}
			}
		})
	}
	all.Wait()
	if slices.Max(wrong) > 0 {
		t.Errorf("%v: told otherwise", wrong)
	}
}

// TestLivesLeaveNothingBehind: nothing runs any more behind a life, were it refused or not.
func TestLivesLeaveNothingBehind(t *testing.T) {
	before := runtime.NumGoroutine()
	for range 20 {
		impl.RunWorld(lifeCast(t), manyEvents())
		impl.RunWorld(lifeCast(t), nil)
		impl.RunWorld(lifeCast(t), wrongEvents())
		impl.RunWorld(make([]impl.Cert, 9), manyEvents())
	}
	for tries := 0; runtime.NumGoroutine() > before; tries++ {
		if tries > 200 {
			t.Fatalf("%d run, ahead of it were %d", runtime.NumGoroutine(), before)
		}
		time.Sleep(10 * time.Millisecond)
	}
}

// TestLivesRememberNothing: what came to pass in one life, another one knows nothing of.
func TestLivesRememberNothing(t *testing.T) {
	cast, events := lifeCast(t), manyEvents()
	want := checkRun(t, cast, events, true)
	for i := range 4 {
		checkRun(t, cast[i:], events[i:], true)
		checkRun(t, nil, events, true)
		checkRun(t, cast, wrongEvents(), false)
		checkWorld(t, checkRun(t, cast, events, true), want)
		checkNew(t, cast)
	}
}
