package tests

import (
	"crypto/sha256"
	"fmt"
	"maps"
	"math"
	"math/big"
	"math/rand"
	"slices"
	"strings"
	"sync"
	"testing"

	"loop.example/g00394/impl"
)

func TestClientConstants(t *testing.T) {
	if impl.MaxWait != 4 || impl.ClForm != 1 || impl.ClSig != 2 || impl.ClNone != 3 || impl.ClBound != 4 {
		t.Errorf("MaxWait %d, ClForm %d, ClSig %d, ClNone %d, ClBound %d", impl.MaxWait, impl.ClForm, impl.ClSig, impl.ClNone, impl.ClBound)
	}
}

func digestByLibrary(text string) string {
	digest := sha256.Sum256([]byte(text))
	return string(digest[:])
}

// waitOf: a question for these that was sent, by the plan 0.
func waitOf(t *testing.T, id int, names string, cached bool, due int) impl.Wait {
	t.Helper()
	w := impl.Wait{Id: id, Sent: id, Due: due}
	if cached {
		w.Sent = 0
	}
	w.Text = askOf(t, impl.Ask{Targets: targetsOf(t, names), Want: 3, Nonce: w.Sent, Cached: cached})
	return w
}

// waits: four, one of them Cached; their Ids do not ascend.
func waits(t *testing.T) []impl.Wait {
	t.Helper()
	return []impl.Wait{waitOf(t, 700, "leaf", false, 50), waitOf(t, 5, "top", true, 40), waitOf(t, 6, "leaf", false, 30), waitOf(t, 1000000000, "gone nobody", false, 20)}
}

// told: what some server tells of this text, signed by this house, with this Nonce.
func told(t *testing.T, text string, nonce, house int) impl.Reply {
	t.Helper()
	r := impl.Reply{Hash: digestByLibrary(text), Nonce: nonce, Time: 20, Next: 50, Answers: []impl.Answer{{Status: 0, Path: []string{"p", "q"}, Lists: []string{"l"}}, {Status: 1, Why: 6}}}
	return signedByHouse(t, house, r)
}

func wholeReply(t *testing.T, r impl.Reply) string {
	t.Helper()
	return textByLibrary(t, replyByHand(t, r))
}

// toldTo: the bytes of what house 4 tells of what was sent.
func toldTo(t *testing.T, w impl.Wait) string {
	t.Helper()
	return wholeReply(t, told(t, w.Text, w.Sent, 4))
}

// someClient: one who asks, with something in each list.
func someClient(t *testing.T) impl.Client {
	t.Helper()
	return impl.Client{
		Key: impl.PublicAt(4), Now: 20, Waits: waits(t)[:3], Late: []int{9, 3},
		Gots: []impl.Got{{Id: 8, Reply: someReply(t)}, {Id: 2, Reply: strayReply()}, {Id: 1, Reply: bareReply()}},
	}
}

func clonedClient(c impl.Client) impl.Client {
	c.Waits, c.Gots, c.Late = slices.Clone(c.Waits), slices.Clone(c.Gots), slices.Clone(c.Late)
	for i := range c.Gots {
		c.Gots[i].Reply.Answers = clonedAnswers(c.Gots[i].Reply.Answers)
	}
	return c
}

// changedClient: the client with one thing done to it, in memory of its own.
func changedClient(c impl.Client, change func(c *impl.Client)) impl.Client {
	own := clonedClient(c)
	change(&own)
	return own
}

func sameGot(a, b impl.Got) bool { return a.Id == b.Id && sameReply(a.Reply, b.Reply) }

func sameClient(a, b impl.Client) bool {
	return a.Key == b.Key && a.Now == b.Now && slices.Equal(a.Waits, b.Waits) && slices.EqualFunc(a.Gots, b.Gots, sameGot) && slices.Equal(a.Late, b.Late)
}

// guardedClient: c with room behind all of its lists, and whether all of that is still as it was.
func guardedClient(c impl.Client) (impl.Client, func() bool) {
	behind, behindGot := impl.Wait{Id: 77, Sent: 77, Text: "behind", Due: 77}, impl.Got{Id: 77, Reply: impl.Reply{Hash: "behind"}}
	room, gotRoom := append(slices.Clone(c.Waits), behind, behind, behind), append(slices.Clone(c.Gots), behindGot, behindGot, behindGot)
	late, lateUntouched := guarded(c.Late)
	checks := []func() bool{lateUntouched}
	for i := range c.Gots {
		reply, untouched := guardedReply(gotRoom[i].Reply)
		gotRoom[i].Reply = reply
		checks = append(checks, untouched)
	}
	before, gotBefore := slices.Clone(room), clonedClient(impl.Client{Gots: gotRoom}).Gots
	handed := impl.Client{Key: c.Key, Now: c.Now, Waits: room[:len(c.Waits)], Gots: gotRoom[:len(c.Gots)], Late: late}
	return handed, func() bool {
		return slices.Equal(room, before) && slices.EqualFunc(gotRoom, gotBefore, sameGot) && !slices.ContainsFunc(checks, func(untouched func() bool) bool { return !untouched() }) && sameClient(handed, c)
	}
}

// clientMemory: where all lists of one who asks lie, with the room behind them.
func clientMemory(c impl.Client) []stretch {
	list := []stretch{memoryOf(c.Waits), memoryOf(c.Gots), memoryOf(c.Late)}
	for _, g := range c.Gots[:cap(c.Gots)] {
		list = append(append(list, memoryOf(g.Reply.Answers)), replyMemory(g.Reply)...)
	}
	return slices.DeleteFunc(list, func(one stretch) bool { return one.from == one.to })
}

func clientTexts(c impl.Client) []string {
	list := []string{c.Key}
	for _, w := range c.Waits {
		list = append(list, w.Text)
	}
	for _, g := range c.Gots {
		list = append(list, replyTexts(g.Reply)...)
	}
	return list
}

// checkOwnClient: no list of the answer lies where another one of it does, nor where one of these clients has one; nor does a text.
func checkOwnClient(t *testing.T, name string, answer impl.Client, others ...impl.Client) {
	t.Helper()
	own := clientMemory(answer)
	for i, one := range own {
		if slices.ContainsFunc(own[:i], one.meets) {
			t.Fatalf("%s: two lists of one answer share memory", name)
		}
	}
	for _, g := range answer.Gots {
		checkListsApart(t, name, g.Reply)
	}
	for _, other := range others {
		memory := clientMemory(other)
		if slices.ContainsFunc(own, func(one stretch) bool { return slices.ContainsFunc(memory, one.meets) }) {
			t.Fatalf("%s: a list shares memory with an argument, or another answer", name)
		}
		checkOwnTexts(t, name, clientTexts(answer), clientTexts(other))
	}
}

func spoilClient(c impl.Client) {
	waits, gots := c.Waits[:cap(c.Waits)], c.Gots[:cap(c.Gots)]
	for i := range waits {
		waits[i] = impl.Wait{Id: -5, Sent: -5, Text: "spoilt", Due: -5}
	}
	for i := range gots {
		spoilReply(gots[i].Reply)
		gots[i] = impl.Got{Id: -5}
	}
	spoil(c.Late)
}

// checkClientStep: what a step from c to want answers, held whole, twice, and against memory that is not its own.
func checkClientStep(t *testing.T, name string, c, want impl.Client, step func(c impl.Client) impl.Client) impl.Client {
	t.Helper()
	handed, untouched := guardedClient(c)
	first, second := step(handed), step(handed)
	if !sameClient(first, want) || !sameClient(second, want) {
		t.Fatalf("%s of %#v = %#v, then %#v, want %#v", name, c, first, second, want)
	}
	checkOwnClient(t, name, first, handed, second)
	spoilClient(first)
	if !sameClient(second, want) || !untouched() {
		t.Fatalf("%s of %#v writes into it, or hands out one memory twice", name, c)
	}
	return second
}

// askNowByHand: as the chapter tells it.
func askNowByHand(t *testing.T, c impl.Client, a impl.Ask, id, span int) (impl.Client, string, bool) {
	t.Helper()
	for _, one := range []struct{ n, least, most int }{{id, 1, 1000000000}, {len(c.Waits), 0, 3}, {span, 1, 999}, {c.Now, 0, 99999}} {
		if one.n < one.least || one.n > one.most {
			return c, "", false
		}
	}
	ids := []int{}
	for _, w := range c.Waits {
		ids = append(ids, w.Id)
	}
	for _, g := range c.Gots {
		ids = append(ids, g.Id)
	}
	if a.Nonce = id; a.Cached {
		a.Nonce = 0
	}
	if slices.Contains(ids, id) || !askRight(a) {
		return c, "", false
	}
	text := textByLibrary(t, askByHand(t, a))
	c.Waits = append(slices.Clone(c.Waits), impl.Wait{Id: id, Sent: a.Nonce, Text: text, Due: c.Now + span})
	return c, text, true
}

// checkAskNow: the client, the text and whether it is asked are held whole, against the chapter's words by hand.
func checkAskNow(t *testing.T, c impl.Client, a impl.Ask, id, span int, want bool) (impl.Client, string) {
	t.Helper()
	after, text, ok := askNowByHand(t, c, a, id, span)
	if ok != want {
		t.Fatalf("%#v, %#v, %d, %d: the case is none, by hand it is %v", c, a, id, span, ok)
	}
	ask, untouched := guardedAsk(a)
	said := []string{}
	name := fmt.Sprintf("AskNow(.., %#v, %d, %d)", a, id, span)
	got := checkClientStep(t, name, c, after, func(c impl.Client) impl.Client {
		d, one, asked := impl.AskNow(c, ask, id, span)
		if one != text || asked != want {
			t.Fatalf("%s of %#v tells %q %v, want %q %v", name, c, one, asked, text, want)
		}
		checkOwnTexts(t, name, append(clientTexts(d), one), slices.Concat(clientTexts(c), ask.Targets, said))
		checkOwnTexts(t, name, []string{one}, clientTexts(d))
		said = append(said, one)
		return d
	})
	if !untouched() || !sameAsk(ask, a) {
		t.Fatalf("%s writes into the question", name)
	}
	return got, said[0]
}

// hearByHand: as the chapter tells it.
func hearByHand(t *testing.T, c impl.Client, text string) (impl.Client, int) {
	t.Helper()
	r, isReply := replyByLibrary(t, text)
	if !isReply {
		return c, 1
	}
	if !sigOkByLibrary(c.Key, replyBodyTextByHand(t, r), r.Sig) {
		return c, 2
	}
	places := []int{}
	for i, w := range c.Waits {
		if w.Sent == r.Nonce {
			places = append(places, i)
		}
	}
	if len(places) == 0 {
		return c, 3
	}
	for _, i := range places {
		if digestByLibrary(c.Waits[i].Text) == r.Hash {
			c = clonedClient(c)
			c.Gots = append(c.Gots, impl.Got{Id: c.Waits[i].Id, Reply: r})
			c.Waits = slices.Delete(c.Waits, i, i+1)
			return c, 0
		}
	}
	return c, 4
}

// checkHear: the client and the code are held whole, against the chapter's words by hand.
func checkHear(t *testing.T, c impl.Client, text string, want int) impl.Client {
	t.Helper()
	after, code := hearByHand(t, c, text)
	if code != want {
		t.Fatalf("%#v, %q: the case is none, by hand it is %d", c, text, code)
	}
	before := strings.Clone(text)
	name := fmt.Sprintf("Hear(.., %.400q)", text)
	got := checkClientStep(t, name, c, after, func(c impl.Client) impl.Client {
		d, code := impl.Hear(c, text)
		if code != want {
			t.Fatalf("%s of %#v tells %d, want %d", name, c, code, want)
		}
		checkOwnTexts(t, name, clientTexts(d), []string{text})
		return d
	})
	if text != before {
		t.Fatalf("%s writes into the text", name)
	}
	return got
}

// hearAny: checkHear, whatever its code is.
func hearAny(t *testing.T, c impl.Client, text string) (impl.Client, int) {
	t.Helper()
	_, code := hearByHand(t, c, text)
	return checkHear(t, c, text, code), code
}

// tickByHand: as the chapter tells it.
func tickByHand(c impl.Client, n int) (impl.Client, bool) {
	then := new(big.Int).Add(big.NewInt(int64(c.Now)), big.NewInt(int64(n)))
	if n < 0 || then.Cmp(big.NewInt(99999)) > 0 {
		return c, false
	}
	late := func(w impl.Wait) bool { return big.NewInt(int64(w.Due)).Cmp(then) < 0 }
	c = clonedClient(c)
	for _, w := range c.Waits {
		if late(w) {
			c.Late = append(c.Late, w.Id)
		}
	}
	c.Now, c.Waits = int(then.Int64()), slices.DeleteFunc(c.Waits, late)
	return c, true
}

// checkTick: the client and whether it is so are held whole, against the chapter's words by hand.
func checkTick(t *testing.T, c impl.Client, n int, want bool) impl.Client {
	t.Helper()
	after, ok := tickByHand(c, n)
	if ok != want {
		t.Fatalf("%#v, %d: the case is none, by hand it is %v", c, n, ok)
	}
	name := fmt.Sprintf("Tick(.., %d)", n)
	return checkClientStep(t, name, c, after, func(c impl.Client) impl.Client {
		d, ok := impl.Tick(c, n)
		if ok != want {
			t.Fatalf("%s of %#v tells %v, want %v", name, c, ok, want)
		}
		return d
	})
}

// checkGot: the answer is held whole, against the first Got by hand, and against memory that is not its own.
func checkGot(t *testing.T, c impl.Client, id int, want bool) impl.Reply {
	t.Helper()
	gots := slices.DeleteFunc(slices.Clone(c.Gots), func(g impl.Got) bool { return g.Id != id })
	if len(gots) > 0 != want {
		t.Fatalf("%#v, %d: the case is none, by hand there are %d", c, id, len(gots))
	}
	reply := impl.Reply{}
	if want {
		reply = gots[0].Reply
	}
	handed, untouched := guardedClient(c)
	first, ok := impl.GotOf(handed, id)
	second, again := impl.GotOf(handed, id)
	if ok != want || again != want || !sameReply(first, reply) || !sameReply(second, reply) {
		t.Fatalf("GotOf(%#v, %d) = %#v %v, then %#v %v, want %#v %v", c, id, first, ok, second, again, reply, want)
	}
	checkOwnReply(t, "GotOf", first, second)
	checkListsApart(t, "GotOf", first)
	checkOwnClient(t, "GotOf", impl.Client{Gots: []impl.Got{{Reply: first}}}, handed)
	spoilReply(first)
	if !sameReply(second, reply) || !untouched() {
		t.Fatalf("GotOf(%#v, %d) writes into it, or hands out one memory twice", c, id)
	}
	return second
}

// checkIds: of one who asks, who waits, was Got and is Late, by Id.
func checkIds(t *testing.T, c impl.Client, waits, gots, late []int) {
	t.Helper()
	ids := [2][]int{}
	for _, w := range c.Waits {
		ids[0] = append(ids[0], w.Id)
	}
	for _, g := range c.Gots {
		ids[1] = append(ids[1], g.Id)
	}
	if !slices.Equal(ids[0], waits) || !slices.Equal(ids[1], gots) || !slices.Equal(c.Late, late) {
		t.Fatalf("waits %d, Got %d, Late %d; want %d, %d, %d", ids[0], ids[1], c.Late, waits, gots, late)
	}
}

func TestClientNew(t *testing.T) {
	for _, key := range append(noKeys(), impl.PublicAt(0), "\x00", textOfSize(20000)) {
		before := strings.Clone(key)
		c := impl.ClientNew(key)
		if !sameClient(c, impl.Client{Key: before}) || key != before || shares(c.Key, key) {
			t.Fatalf("ClientNew(%q) = %#v", key, c)
		}
		other := impl.ClientNew(key)
		checkOwnClient(t, "ClientNew", c, other)
		checkGot(t, c, 0, false)
		checkIds(t, c, nil, nil, nil)
	}
}

// TestQuestionsThatAreAsked: which text goes out, with which Nonce, and what waits then.
func TestQuestionsThatAreAsked(t *testing.T) {
	c := impl.ClientNew(impl.PublicAt(4))
	c.Now = 20
	want := []impl.Wait{}
	for _, one := range []struct {
		names             string
		id, span, nonce   int
		cached            bool
		sent, due, behind int
	}{
		{"leaf", 5, 30, 0, false, 5, 50, 1}, {"top", 300, 1, 7, true, 0, 21, 2}, {"top", 1000000000, 999, 300, true, 0, 1019, 3}, {"leaf gone nobody", 1, 2, 5, false, 1, 22, 4},
	} {
		a := impl.Ask{Targets: targetsOf(t, one.names), Plan: 3, Want: 2, Nonce: one.nonce, Time: 8, Cached: one.cached}
		after, text := checkAskNow(t, c, a, one.id, one.span, true)
		a.Nonce = one.sent
		want = append(want, impl.Wait{Id: one.id, Sent: one.sent, Text: askOf(t, a), Due: one.due})
		if back := readAskBack(t, text); !sameAsk(back, a) || len(after.Waits) != one.behind {
			t.Fatalf("asked is %#v, want %#v; %d wait", back, a, len(after.Waits))
		}
		if !sameClient(after, impl.Client{Key: impl.PublicAt(4), Now: 20, Waits: want}) {
			t.Fatalf("%#v, want the Waits %#v", after, want)
		}
		c = after
	}
	checkAskNow(t, c, impl.Ask{Targets: targetsOf(t, "leaf")}, 6, 30, false)
}

// TestQuestionsOfAllKinds: each right question, with each Nonce: that one is no matter.
func TestQuestionsOfAllKinds(t *testing.T) {
	source := rand.New(rand.NewSource(180))
	asks := rightAsks(t)
	for range 60 {
		asks = append(asks, drawnAsk(source))
	}
	for _, a := range asks {
		for _, cached := range []bool{false, true} {
			for _, nonce := range []int{0, 5, -1, 1000000001, math.MinInt, math.MaxInt} {
				a.Nonce, a.Cached = nonce, cached
				for _, c := range []impl.Client{{}, someClient(t)} {
					after, text := checkAskNow(t, c, a, 77, 10, true)
					if back := readAskBack(t, text); back.Nonce != map[bool]int{false: 77}[cached] || back.Cached != cached || after.Waits[len(after.Waits)-1].Sent != back.Nonce {
						t.Fatalf("asked is %#v, and waits %#v", back, after.Waits)
					}
				}
			}
		}
	}
}

// TestQuestionsThatHaveNoText: not asked, whoever asks, whatever they go by.
func TestQuestionsThatHaveNoText(t *testing.T) {
	refused := 0
	for _, a := range rightAsks(t) {
		for _, change := range wrongChanges() {
			wrong := changedAsk(a, change)
			// A wrong Nonce makes no wrong question: another one is sent.
			plain := wrong
			plain.Nonce = 0
			for _, c := range []impl.Client{{}, someClient(t)} {
				for _, cached := range []bool{false, true} {
					wrong.Cached = cached
					checkAskNow(t, c, wrong, 77, 10, askRight(plain))
				}
			}
			if !askRight(plain) {
				refused++
			}
		}
	}
	if refused < 50 {
		t.Errorf("%d are refused: too few", refused)
	}
}

func TestIdsThatMayBeAskedBy(t *testing.T) {
	a := impl.Ask{Targets: targetsOf(t, "leaf"), Want: 1}
	for _, cached := range []bool{false, true} {
		a.Cached = cached
		for _, id := range append(edgeNumbers(), 3, 4, 5, 700, 701) {
			right := id >= 1 && id <= 1000000000
			checkAskNow(t, impl.Client{}, a, id, 10, right)
			// Of someone's, 5, 6 and 700 wait, 1, 2 and 8 are Got; 3 and 9 are Late, and may be taken again.
			taken := slices.Contains([]int{5, 6, 700, 1, 2, 8}, id)
			checkAskNow(t, someClient(t), a, id, 10, right && !taken)
			// Sent is no Id.
			sent := impl.Client{Waits: []impl.Wait{{Id: 50, Sent: id, Due: id}}, Gots: []impl.Got{{Id: 51, Reply: impl.Reply{Nonce: id, Plan: id}}}, Late: []int{id}}
			checkAskNow(t, sent, a, id, 10, right)
			for _, c := range []impl.Client{{Waits: []impl.Wait{{Id: id}}}, {Gots: []impl.Got{{Id: id}}}, {Waits: []impl.Wait{{Id: 60}, {Id: id}}}, {Gots: []impl.Got{{Id: 60}, {Id: 61}, {Id: id}}}} {
				checkAskNow(t, c, a, id, 10, false)
				checkAskNow(t, c, a, 62, 10, true)
			}
		}
	}
}

// waitsFrom: so many, with the Ids from id on.
func waitsFrom(id, count int) []impl.Wait {
	return manyOf(count, func(i int) impl.Wait {
		return impl.Wait{Id: id + i, Sent: id + i, Text: fmt.Sprint("asked ", id+i), Due: 40}
	})
}

func TestHowManyMayWait(t *testing.T) {
	a := impl.Ask{Targets: targetsOf(t, "leaf"), Want: 1}
	for count := range 9 {
		c := changedClient(someClient(t), func(c *impl.Client) { c.Waits = waitsFrom(20, count) })
		after, _ := checkAskNow(t, c, a, 10, 30, count < 4)
		if want := min(count+1, max(count, impl.MaxWait)); len(after.Waits) != want {
			t.Fatalf("%d wait, then %d, want %d", count, len(after.Waits), want)
		}
		// One that is Cached waits like any other.
		a.Cached = !a.Cached
		checkAskNow(t, impl.Client{Waits: waitsFrom(1, count)}, a, 10, 30, count < 4)
		checkAskNow(t, impl.Client{Waits: waitsFrom(1, count), Gots: manyOf(50, func(i int) impl.Got { return impl.Got{Id: 100 + i} }), Late: make([]int, 50)}, a, 10, 30, count < 4)
	}
	checkAskNow(t, impl.Client{Waits: waitsFrom(1, 300)}, a, 1000, 30, false)
	// Where one more waits, there is room again when it is answered, or too late.
	c := impl.Client{Key: impl.PublicAt(4), Now: 20, Waits: waits(t)}
	checkAskNow(t, c, a, 10, 30, false)
	for _, w := range c.Waits {
		checkAskNow(t, checkHear(t, c, toldTo(t, w), 0), a, 10, 30, true)
	}
	checkAskNow(t, checkTick(t, c, 0, true), a, 10, 30, false)
	checkAskNow(t, checkTick(t, c, 1, true), a, 10, 30, true)
}

func TestHowLongItMayWait(t *testing.T) {
	a := impl.Ask{Targets: targetsOf(t, "leaf"), Want: 1}
	for _, span := range append(edgeNumbers(), 20, 997, 998, 999, 1000, 1001) {
		for _, now := range []int{0, 20, 99999} {
			after, _ := checkAskNow(t, impl.Client{Now: now}, a, 5, span, span >= 1 && span <= 999)
			if len(after.Waits) > 0 && after.Waits[0].Due != now+span {
				t.Fatalf("at %d for %d it waits till %d", now, span, after.Waits[0].Due)
			}
		}
	}
	for _, now := range append(edgeNumbers(), 20, 99998, 99999, 100000, 100001) {
		for _, span := range []int{1, 999} {
			c := changedClient(someClient(t), func(c *impl.Client) { c.Now = now })
			checkAskNow(t, c, a, 10, span, now >= 0 && now <= 99999)
		}
		checkAskNow(t, impl.Client{Now: now}, a, 10, 0, false)
	}
}

// TestQuestionsWithTwoFaults: one fault doesn't make another one good.
func TestQuestionsWithTwoFaults(t *testing.T) {
	type asking struct {
		c        impl.Client
		a        impl.Ask
		id, span int
	}
	faults := []func(x *asking){
		func(x *asking) { x.id = 0 }, func(x *asking) { x.id = 1000000001 }, func(x *asking) { x.id = -1 }, func(x *asking) { x.id = 700 }, func(x *asking) { x.id = 8 },
		func(x *asking) { x.c.Waits = waitsFrom(700, 4) }, func(x *asking) { x.span = 0 }, func(x *asking) { x.span = 1000 }, func(x *asking) { x.span = -1 },
		func(x *asking) { x.c.Now = -1 }, func(x *asking) { x.c.Now = 100000 },
		func(x *asking) { x.a.Targets = nil }, func(x *asking) { x.a.Plan = 100 }, func(x *asking) { x.a.Want = 4 }, func(x *asking) { x.a.Time = 10000 },
	}
	for _, first := range faults {
		for _, second := range faults {
			x := asking{someClient(t), impl.Ask{Targets: targetsOf(t, "leaf")}, 10, 30}
			checkAskNow(t, x.c, x.a, x.id, x.span, true)
			first(&x)
			checkAskNow(t, x.c, x.a, x.id, x.span, false)
			second(&x)
			checkAskNow(t, x.c, x.a, x.id, x.span, false)
		}
	}
}

// TestAnswersThatAreHeard: of a server's answers, to one, and to several that wait.
func TestAnswersThatAreHeard(t *testing.T) {
	v := someServer(t)
	asks := []impl.Ask{
		{Targets: targetsOf(t, "leaf"), Want: 3}, {Targets: targetsOf(t, "top gone"), Plan: 3, Want: 1, Cached: true}, {Targets: targetsOf(t, "stray nobody leaf"), Want: 2}, {Targets: targetsOf(t, "leaf"), Plan: 8, Cached: true},
	}
	ids := []int{40, 7, 1000000000, 1}
	for count := 1; count <= len(asks); count++ {
		c := impl.Client{Key: impl.PublicAt(4), Now: 20}
		texts, waits := []string{}, slices.Clone(ids[:count])
		for i, a := range asks[:count] {
			after, text := checkAskNow(t, c, a, ids[i], 30, true)
			c, texts = after, append(texts, text)
		}
		gots := []int{}
		// The last one first: each answer goes to its own question, not to the one that waits longest.
		for i := count - 1; i >= 0; i-- {
			_, said := checkServe(t, v, texts[i])
			c = checkHear(t, c, said, 0)
			waits, gots = waits[:i], append(gots, ids[i])
			checkIds(t, c, waits, gots, nil)
			if r := checkGot(t, c, ids[i], true); !sameReply(r, readReplyBack(t, said)) || len(r.Answers) != []int{1, 2, 3, 0}[i] {
				t.Fatalf("%d: Got is %#v", ids[i], r)
			}
			// Nobody waits for it a second time, unless another one that is Cached waits.
			again := 3
			if asks[i].Cached && slices.ContainsFunc(asks[:i], func(a impl.Ask) bool { return a.Cached }) {
				again = 4
			}
			checkHear(t, c, said, again)
			for _, id := range slices.Concat(waits, []int{0, 2, -1, 41}) {
				checkGot(t, c, id, false)
			}
		}
	}
}

// TestAnswersToOneOfSeveral: whichever it is, the others wait on, in order.
func TestAnswersToOneOfSeveral(t *testing.T) {
	c := changedClient(someClient(t), func(c *impl.Client) { c.Waits = waits(t) })
	for i, w := range c.Waits {
		after := checkHear(t, c, toldTo(t, w), 0)
		others := slices.Delete(slices.Clone(c.Waits), i, i+1)
		if !slices.Equal(after.Waits, others) || len(after.Gots) != 4 || after.Gots[3].Id != w.Id || after.Now != 20 || !slices.Equal(after.Late, c.Late) {
			t.Fatalf("%#v", after)
		}
		checkHear(t, after, toldTo(t, w), 3)
		for _, other := range others {
			checkHear(t, after, toldTo(t, other), 0)
		}
		allLists([]int{0, 1, 2, 3}, 3, func(places []int) {
			d, heard := c, []int{}
			for _, place := range places {
				code := 0
				if slices.Contains(heard, place) {
					code = 3
				}
				d, heard = checkHear(t, d, toldTo(t, c.Waits[place]), code), append(heard, place)
			}
		})
	}
}

// TestQuestionsThatAreAlike: that are Cached, and wait with one Nonce.
func TestQuestionsThatAreAlike(t *testing.T) {
	v := someServer(t)
	leaf, top := impl.Ask{Targets: targetsOf(t, "leaf"), Want: 3, Cached: true}, impl.Ask{Targets: targetsOf(t, "top"), Want: 3, Cached: true}
	own := impl.Ask{Targets: targetsOf(t, "leaf"), Want: 3}
	asked := func(c impl.Client, a impl.Ask, id int) (impl.Client, string) {
		after, text := checkAskNow(t, c, a, id, 30, true)
		_, said := checkServe(t, v, text)
		return after, said
	}
	start := impl.Client{Key: impl.PublicAt(4), Now: 20}
	// With the same text: the first one of which it is, whatever their Ids are; then the next one.
	for _, ids := range [][]int{{5, 9}, {9, 5}, {1000000000, 1}} {
		one, said := asked(start, leaf, ids[0])
		two, again := asked(one, leaf, ids[1])
		if said != again || two.Waits[0].Text != two.Waits[1].Text || two.Waits[0].Sent != 0 || two.Waits[1].Sent != 0 {
			t.Fatalf("%#v: the case is none", two)
		}
		first := checkHear(t, two, said, 0)
		checkIds(t, first, ids[1:], ids[:1], nil)
		second := checkHear(t, first, said, 0)
		checkIds(t, second, nil, ids, nil)
		checkHear(t, second, said, 3)
		if !sameReply(checkGot(t, second, ids[0], true), checkGot(t, second, ids[1], true)) {
			t.Fatalf("one text is Got as two")
		}
	}
	// With unlike texts: each takes what is for its own text alone.
	for _, turn := range []bool{false, true} {
		one, saidLeaf := asked(start, leaf, 5)
		two, saidTop := asked(one, top, 6)
		if turn {
			slices.Reverse(two.Waits)
		}
		ids := []int{two.Waits[0].Id, two.Waits[1].Id}
		afterLeaf, afterTop := checkHear(t, two, saidLeaf, 0), checkHear(t, two, saidTop, 0)
		checkIds(t, afterLeaf, []int{6}, []int{5}, nil)
		checkIds(t, afterTop, []int{5}, []int{6}, nil)
		checkHear(t, afterLeaf, saidLeaf, 4)
		checkHear(t, afterTop, saidTop, 4)
		checkIds(t, checkHear(t, afterLeaf, saidTop, 0), nil, []int{5, 6}, nil)
		checkIds(t, checkHear(t, afterTop, saidLeaf, 0), nil, []int{6, 5}, nil)
		// A third one like the first, behind an unlike one.
		three, _ := asked(two, leaf, 7)
		checkIds(t, checkHear(t, three, saidLeaf, 0), []int{6, 7}, []int{5}, nil)
		checkIds(t, checkHear(t, checkHear(t, three, saidLeaf, 0), saidLeaf, 0), []int{6}, []int{5, 7}, nil)
		checkIds(t, checkHear(t, three, saidTop, 0), slices.DeleteFunc(append(ids, 7), func(id int) bool { return id == 6 }), []int{6}, nil)
	}
	// One that is not Cached beside one that is, of the same letter.
	one, general := asked(start, leaf, 5)
	two, personal := asked(one, own, 6)
	if general == personal {
		t.Fatal("the case is none")
	}
	checkIds(t, checkHear(t, two, general, 0), []int{6}, []int{5}, nil)
	checkIds(t, checkHear(t, two, personal, 0), []int{5}, []int{6}, nil)
	checkHear(t, checkHear(t, two, general, 0), general, 3)
	checkHear(t, checkHear(t, two, personal, 0), personal, 3)
	// Two that are not Cached, of one letter: each by its own Id.
	three, other := asked(two, own, 7)
	checkIds(t, checkHear(t, three, other, 0), []int{5, 6}, []int{7}, nil)
	checkIds(t, checkHear(t, checkHear(t, three, other, 0), personal, 0), []int{5}, []int{7, 6}, nil)
	checkHear(t, two, other, 3)
}

// TestCachedForAll: what a server kept is for all who ask the same.
func TestCachedForAll(t *testing.T) {
	v, a := someServer(t), impl.Ask{Targets: targetsOf(t, "leaf"), Want: 3, Cached: true}
	one, text := checkAskNow(t, impl.Client{Key: impl.PublicAt(4), Now: 20}, a, 5, 30, true)
	kept, said := checkServe(t, v, text)
	later := checkLater(t, kept, 9, true)
	two, same := checkAskNow(t, impl.Client{Key: impl.PublicAt(4), Now: 29}, a, 6, 30, true)
	if _, again := checkServe(t, later, same); again != said || same != text {
		t.Fatalf("asked %q and %q, said %q and %q", text, same, said, again)
	}
	checkHear(t, one, said, 0)
	if after := checkHear(t, two, said, 0); checkGot(t, after, 6, true).Time != 20 {
		t.Fatalf("Got is %#v", after.Gots)
	}
}

// noReplies: texts that are no answer, though some are near to one.
func noReplies(t *testing.T) []string {
	t.Helper()
	w := waits(t)[0]
	text := toldTo(t, w)
	list := []string{"", "x", "\x00", "\x30\x00", text[1:], text[:len(text)-1], text + "\x00", "\x00" + text, text + text, turned(text, 0, 1), turned(text, 1, 1), turned(text, 2, 1), strings.ToUpper(text), w.Text, targetOf(t, "leaf"), replyBodyTextByHand(t, told(t, w.Text, w.Sent, 4)), textOfSize(4000), textOfSize(4001), textOfSize(9000)}
	long := longReply(3950)
	long.Hash, long.Nonce = digestByLibrary(w.Text), w.Sent
	list = append(list, wholeReply(t, signedByHouse(t, 4, long)))
	three := told(t, w.Text, w.Sent, 4)
	three.Answers = append(three.Answers, impl.Answer{})
	three = signedByHouse(t, 4, three)
	for _, change := range wrongReplyChanges() {
		r := changedReply(three, change)
		if r.Sig == three.Sig {
			// By the key that is known, and bound to its question: it is not right all the same.
			r = signedByHouse(t, 4, r)
		}
		// Numbers out of range are told as 0, which may be right.
		if _, isReply := replyByLibrary(t, wholeReply(t, r)); !isReply {
			list = append(list, wholeReply(t, r))
		}
	}
	return list
}

func TestTextsThatAreNoAnswer(t *testing.T) {
	texts := noReplies(t)
	if len(texts) < 35 {
		t.Errorf("%d texts: too few", len(texts))
	}
	for _, text := range texts {
		for _, c := range []impl.Client{{}, someClient(t), {Key: "no key", Waits: waits(t)}, {Key: impl.PublicAt(4), Waits: []impl.Wait{{Text: text}, {Id: 1, Sent: 700, Text: text}}}} {
			checkHear(t, c, text, 1)
		}
	}
}

// TestAnswersBySomeoneElse: by another key, with another Sig, or by a key that is none.
func TestAnswersBySomeoneElse(t *testing.T) {
	c := someClient(t)
	for _, w := range c.Waits {
		for house := -1; house <= impl.Secrets; house++ {
			text := wholeReply(t, told(t, w.Text, w.Sent, house))
			if house < 0 || house == impl.Secrets {
				checkHear(t, c, text, 1)
				continue
			}
			for key := range impl.Secrets {
				other := changedClient(c, func(c *impl.Client) { c.Key = impl.PublicAt(key) })
				checkHear(t, other, text, map[bool]int{false: 2}[key == house])
			}
		}
		for _, key := range noKeys() {
			if key != impl.PublicAt(4) {
				checkHear(t, changedClient(c, func(c *impl.Client) { c.Key = key }), toldTo(t, w), 2)
			}
		}
		r := told(t, w.Text, w.Sent, 4)
		for at := range impl.KeySize {
			for _, bits := range []byte{1, 16, 128, 255} {
				checkHear(t, c, wholeReply(t, changedReply(r, func(r *impl.Reply) { r.Sig = turned(r.Sig, at, bits) })), 2)
			}
		}
		for _, sig := range []string{strings.Repeat("\x00", 15), strings.Repeat("\xff", 15), impl.PublicAt(4), more(r.Sig, 1), signByLibrary(t, 4, ""), signByLibrary(t, 4, w.Text), signByLibrary(t, 4, toldTo(t, w))} {
			checkHear(t, c, wholeReply(t, changedReply(r, func(r *impl.Reply) { r.Sig = sig })), 2)
		}
	}
}

// answerTwists: each makes of an answer another one, that nobody signed.
func answerTwists() map[string]func(r *impl.Reply) {
	return map[string]func(r *impl.Reply){
		"Hash": func(r *impl.Reply) { r.Hash = digestByLibrary("another") }, "Nonce": func(r *impl.Reply) { r.Nonce++ }, "Time": func(r *impl.Reply) { r.Time++ }, "Next": func(r *impl.Reply) { r.Next++ }, "Plan": func(r *impl.Reply) { r.Plan++ }, "Error": func(r *impl.Reply) { r.Error++ },
		"none": func(r *impl.Reply) { r.Answers = nil }, "fewer": func(r *impl.Reply) { r.Answers = r.Answers[:1] }, "more": func(r *impl.Reply) { r.Answers = append(r.Answers, impl.Answer{}) }, "order": func(r *impl.Reply) { slices.Reverse(r.Answers) },
		"Status": func(r *impl.Reply) { r.Answers[1].Status = 0 }, "Why": func(r *impl.Reply) { r.Answers[1].Why = 0 }, "Path": func(r *impl.Reply) { r.Answers[0].Path[0] = "r" }, "Lists": func(r *impl.Reply) { r.Answers[0].Lists = nil },
	}
}

// TestAnswersThatWereTwisted: what was signed is no more what is told.
func TestAnswersThatWereTwisted(t *testing.T) {
	c := someClient(t)
	for _, w := range c.Waits {
		for name, twist := range answerTwists() {
			r := changedReply(told(t, w.Text, w.Sent, 4), twist)
			checkHear(t, c, wholeReply(t, r), 2)
			// Signed anew it is an answer; whether to this question, Hash and Nonce alone tell.
			want := map[string]int{"Hash": 4, "Nonce": 3}[name]
			checkHear(t, c, wholeReply(t, signedByHouse(t, 4, r)), want)
		}
		// One byte turned: not believed, wherever it is.
		text := toldTo(t, w)
		codes := map[int]int{}
		for at := range len(text) {
			for _, bits := range []byte{1, 128} {
				after, code := hearAny(t, c, turned(text, at, bits))
				if code == 0 || !sameClient(after, c) {
					t.Fatalf("with byte %d turned it is believed", at)
				}
				codes[code]++
			}
		}
		if codes[1] < 20 || codes[2] < 40 {
			t.Errorf("%v: too few", codes)
		}
	}
}

// TestAnswersToOthers: signed by whom it trusts, and for another question.
func TestAnswersToOthers(t *testing.T) {
	c := someClient(t)
	byHash := func(text string, nonce int) string { return wholeReply(t, told(t, text, nonce, 4)) }
	for _, w := range c.Waits {
		// With a Nonce that nobody waits with: ClNone, whatever its Hash is.
		for _, nonce := range []int{1, 2, 3, 4, 7, 8, 9, 699, 701, 256 + 5, 1 << 16, 999999999, 1000000000} {
			checkHear(t, c, byHash(w.Text, nonce), 3)
			checkHear(t, c, byHash("another", nonce), 3)
		}
		// The Id of one that is Cached is not its Nonce.
		checkHear(t, c, byHash(w.Text, 5), 3)
		// With its Nonce, and the Hash of another text: ClBound.
		for _, text := range []string{"", "another", w.Text[:len(w.Text)-1], w.Text + "\x00", turned(w.Text, len(w.Text)-1, 255), turned(w.Text, 40, 1), digestByLibrary(w.Text)} {
			checkHear(t, c, byHash(text, w.Sent), 4)
		}
		r := told(t, w.Text, w.Sent, 4)
		for at := range impl.DigestSize {
			checkHear(t, c, wholeReply(t, signedByHouse(t, 4, changedReply(r, func(r *impl.Reply) { r.Hash = turned(r.Hash, at, 1) }))), 4)
		}
		// With the Nonce of one that waits, and the Hash of another one that waits.
		for _, other := range c.Waits {
			if other.Id != w.Id {
				checkHear(t, c, byHash(w.Text, other.Sent), 4)
			}
		}
	}
	// What was Got, or is Late, does not wait.
	got := checkHear(t, c, toldTo(t, c.Waits[0]), 0)
	checkHear(t, got, byHash("another", 700), 3)
	late := checkTick(t, c, 31, true)
	checkIds(t, late, nil, []int{8, 2, 1}, []int{9, 3, 700, 5, 6})
	for _, w := range c.Waits {
		checkHear(t, late, toldTo(t, w), 3)
	}
	for _, one := range []impl.Client{{Key: c.Key}, {Key: c.Key, Gots: c.Gots, Late: []int{700, 0}}} {
		checkHear(t, one, byHash("another", 0), 3)
		checkHear(t, one, toldTo(t, c.Waits[0]), 3)
		checkHear(t, one, toldTo(t, c.Waits[1]), 3)
	}
}

// TestAnswersWithSeveralFaults: the code that is listed first.
func TestAnswersWithSeveralFaults(t *testing.T) {
	c := someClient(t)
	w := c.Waits[0]
	for faults := range 16 {
		r := told(t, w.Text, w.Sent, 4)
		want := 0
		if faults&8 != 0 {
			r.Hash, want = digestByLibrary("another"), 4
		}
		if faults&4 != 0 {
			r.Nonce, want = 77, 3
		}
		r = signedByHouse(t, 4, r)
		if faults&2 != 0 {
			r, want = signedByHouse(t, 3, r), 2
		}
		if faults&1 != 0 {
			r.Plan, want = 100, 1
		}
		if faults&3 == 1 {
			r = signedByHouse(t, 4, r)
		}
		checkHear(t, c, wholeReply(t, r), want)
	}
}

// TestHeardOfAllKinds: whatever they tell, when they are for its own question; nobody asks when they were given.
func TestHeardOfAllKinds(t *testing.T) {
	source := rand.New(rand.NewSource(181))
	replies := append(rightReplies(t), repliesInOneMemory(t)...)
	for range 150 {
		replies = append(replies, drawnReply(source))
	}
	heard := 0
	for i, r := range replies {
		w := waits(t)[i%4]
		r.Hash, r.Nonce = digestByLibrary(w.Text), w.Sent
		r = signedByHouse(t, i%impl.Secrets, r)
		text := wholeReply(t, r)
		if _, isReply := replyByLibrary(t, text); !isReply {
			continue
		}
		heard++
		for _, now := range []int{20, 0, 99999, -1, 100000} {
			c := impl.Client{Key: impl.PublicAt(i % impl.Secrets), Now: now, Waits: waits(t)}
			after := checkHear(t, c, text, 0)
			if got := checkGot(t, after, w.Id, true); !sameReply(got, r) {
				t.Fatalf("Got is %#v, want %#v", got, r)
			}
		}
	}
	if heard < 50 {
		t.Errorf("%d are heard: too few", heard)
	}
}

func TestTick(t *testing.T) {
	c := changedClient(someClient(t), func(c *impl.Client) { c.Waits = waits(t) })
	for _, one := range []struct {
		n           int
		waits, late []int
	}{
		// Due of 20 is Now; it is late at 21, not before.
		{0, []int{700, 5, 6, 1000000000}, nil}, {1, []int{700, 5, 6}, []int{1000000000}}, {9, []int{700, 5, 6}, []int{1000000000}}, {10, []int{700, 5, 6}, []int{1000000000}}, {11, []int{700, 5}, []int{6, 1000000000}}, {20, []int{700, 5}, []int{6, 1000000000}}, {21, []int{700}, []int{5, 6, 1000000000}}, {30, []int{700}, []int{5, 6, 1000000000}},
		// Several at once, in the order in which they wait.
		{31, nil, []int{700, 5, 6, 1000000000}}, {32, nil, []int{700, 5, 6, 1000000000}}, {99979, nil, []int{700, 5, 6, 1000000000}},
	} {
		after := checkTick(t, c, one.n, true)
		checkIds(t, after, one.waits, []int{8, 2, 1}, slices.Concat([]int{9, 3}, one.late))
		if after.Now != 20+one.n {
			t.Fatalf("%d later it is %d", one.n, after.Now)
		}
	}
	for _, n := range []int{-1, -2, -20, 99980, 99981, 100000, math.MaxInt, math.MaxInt - 20, math.MaxInt - 19, math.MinInt, math.MinInt + 1} {
		checkTick(t, c, n, false)
	}
	// By and by: behind those that are Late already.
	for _, n := range []int{1, 10, 10, 10} {
		c = checkTick(t, c, n, true)
	}
	checkIds(t, c, nil, []int{8, 2, 1}, []int{9, 3, 1000000000, 6, 5, 700})
}

// TestTicksAtEachTime: Now and n at their edges, and beyond, and Due beside them.
func TestTicksAtEachTime(t *testing.T) {
	for _, now := range append(edgeNumbers(), 20, 99998, 99999, 100000) {
		for _, n := range append(edgeNumbers(), 20, 99998, 99999, 100000, 99998-max(now, 0), 99999-max(now, 0), 100000-max(now, 0)) {
			then := new(big.Int).Add(big.NewInt(int64(now)), big.NewInt(int64(n)))
			checkTick(t, impl.Client{Now: now}, n, n >= 0 && then.Cmp(big.NewInt(99999)) <= 0)
			c := impl.Client{Now: now, Late: []int{1}}
			for i, due := range []int{now + n, now + n - 1, now + n + 1, now, now - 1, math.MinInt, math.MaxInt} {
				c.Waits = append(c.Waits, impl.Wait{Id: 9 - i, Due: due})
			}
			_, ok := tickByHand(c, n)
			checkTick(t, c, n, ok)
		}
	}
	for _, one := range []struct{ now, n int }{{0, 99999}, {1, 99998}, {99999, 0}, {99998, 1}, {-1, 100000}, {-100000, 0}, {math.MinInt, math.MaxInt}} {
		checkTick(t, impl.Client{Now: one.now}, one.n, true)
		if checkTick(t, impl.Client{Now: one.now}, one.n, true).Now != one.now+one.n {
			t.Fatalf("%d and %d", one.now, one.n)
		}
	}
	for _, one := range []struct{ now, n int }{{0, 100000}, {1, 99999}, {99999, 1}, {100000, 0}, {-1, 100001}, {-1, -1}, {math.MaxInt, 0}, {math.MaxInt, math.MaxInt}, {1, math.MaxInt}} {
		checkTick(t, impl.Client{Now: one.now}, one.n, false)
	}
}

// TestAskedTillDue: it waits as long as it was said, and no longer; then it may be asked again.
func TestAskedTillDue(t *testing.T) {
	a := impl.Ask{Targets: targetsOf(t, "leaf"), Want: 3}
	for _, span := range []int{1, 2, 30, 999} {
		c, text := checkAskNow(t, impl.Client{Key: impl.PublicAt(4), Now: 20}, a, 5, span, true)
		said := wholeReply(t, told(t, text, 5, 4))
		checkHear(t, checkTick(t, c, span-1, true), said, 0)
		checkHear(t, checkTick(t, c, span, true), said, 0)
		late := checkTick(t, c, span+1, true)
		checkIds(t, late, nil, nil, []int{5})
		checkHear(t, late, said, 3)
		again, same := checkAskNow(t, late, a, 5, span, true)
		if same != text {
			t.Fatalf("asked again it is %q, want %q", same, text)
		}
		got := checkHear(t, again, said, 0)
		checkIds(t, got, nil, []int{5}, []int{5})
		checkAskNow(t, got, a, 5, span, false)
		checkIds(t, checkTick(t, got, span+1, true), nil, []int{5}, []int{5})
	}
}

func TestGotOf(t *testing.T) {
	c := someClient(t)
	for id, want := range map[int]impl.Reply{8: someReply(t), 2: strayReply(), 1: bareReply()} {
		if got := checkGot(t, c, id, true); !sameReply(got, want) {
			t.Fatalf("GotOf(.., %d) = %#v, want %#v", id, got, want)
		}
	}
	// Those that wait, those that are Late, and those that there are none of.
	for _, id := range []int{700, 5, 6, 9, 3, 0, 300, 70000, -8, math.MaxInt, math.MinInt} {
		checkGot(t, c, id, false)
		checkGot(t, impl.Client{}, id, false)
		// What was Got with any Id is found by it; of several the first.
		for _, r := range append(rightReplies(t), impl.Reply{}, longReply(4400)) {
			one := impl.Client{Gots: []impl.Got{{Id: id, Reply: r}}}
			checkGot(t, one, id, true)
			checkGot(t, one, 4, false)
			several := impl.Client{Gots: []impl.Got{{Id: 4, Reply: bareReply()}, {Id: id, Reply: r}, {Id: id, Reply: wideReply()}, {Id: 4, Reply: r}}}
			if got := checkGot(t, several, id, true); !sameReply(got, r) || !sameReply(checkGot(t, several, 4, true), bareReply()) {
				t.Fatalf("GotOf(.., %d) is not the first one", id)
			}
		}
	}
}

// wrongClients: each is not as who asks would ever be, and is answered all the same.
func wrongClients(t *testing.T) []impl.Client {
	t.Helper()
	list := []impl.Client{}
	for _, change := range []func(c *impl.Client){
		func(c *impl.Client) { c.Key = "" }, func(c *impl.Client) { c.Key = "no key" }, func(c *impl.Client) { c.Key += "\x00" }, func(c *impl.Client) { c.Now = -1 }, func(c *impl.Client) { c.Now = 100000 }, func(c *impl.Client) { c.Now = math.MinInt },
		// Two Waits, or two Gots, with one Id; one that waits and was Got.
		func(c *impl.Client) { c.Waits[1].Id = 700 }, func(c *impl.Client) { c.Waits[2].Id, c.Waits[2].Sent = 700, 700 }, func(c *impl.Client) { c.Waits[2] = c.Waits[0] }, func(c *impl.Client) { c.Waits[1] = c.Waits[0]; c.Waits[1].Due = 21 }, func(c *impl.Client) { c.Gots[2].Id = 8 }, func(c *impl.Client) { c.Gots = slices.Repeat(c.Gots, 3) }, func(c *impl.Client) { c.Waits[0].Id = 8 }, func(c *impl.Client) { c.Gots[1].Id = 700 },
		// More than may wait.
		func(c *impl.Client) { c.Waits = append(waits(t), waitOf(t, 50, "stray", false, 25)) }, func(c *impl.Client) { c.Waits = append(waitsFrom(30, 20), c.Waits...) }, func(c *impl.Client) { c.Waits = slices.Repeat(c.Waits, 3) },
		// Sent with another Nonce, or something that is no question.
		func(c *impl.Client) { c.Waits[0].Sent = 6 }, func(c *impl.Client) { c.Waits[0].Sent = -1 }, func(c *impl.Client) { c.Waits[2].Sent = 0 }, func(c *impl.Client) { c.Waits[0].Text = "" }, func(c *impl.Client) { c.Waits[1].Text = "x" }, func(c *impl.Client) { c.Waits[2].Text = c.Waits[0].Text }, func(c *impl.Client) { c.Waits[0].Id = 0 }, func(c *impl.Client) { c.Waits[0].Id = math.MinInt }, func(c *impl.Client) { c.Waits[0].Due = math.MinInt; c.Waits[1].Due = math.MaxInt },
		func(c *impl.Client) { c.Gots[0].Reply = impl.Reply{} }, func(c *impl.Client) { c.Gots[0].Reply = longReply(4400) }, func(c *impl.Client) { c.Gots[0].Reply.Answers = make([]impl.Answer, 9) }, func(c *impl.Client) { c.Late = make([]int, 40) }, func(c *impl.Client) { c.Late = []int{700, 5, 8, -1, 5} },
	} {
		list = append(list, changedClient(someClient(t), change))
	}
	return list
}

func TestClientsThatAreNotRight(t *testing.T) {
	texts := []string{"x", wholeReply(t, told(t, "x", 0, 4)), wholeReply(t, told(t, "", 700, 4)), wholeReply(t, told(t, waits(t)[0].Text, 6, 4)), wholeReply(t, told(t, waits(t)[2].Text, 0, 4))}
	for _, w := range append(waits(t), waitsFrom(30, 2)...) {
		texts = append(texts, toldTo(t, w))
	}
	codes := map[int]int{}
	for _, c := range wrongClients(t) {
		for _, text := range texts {
			after, code := hearAny(t, c, text)
			codes[code]++
			hearAny(t, after, text)
		}
		for _, id := range []int{0, 1, 5, 6, 8, 10, 700} {
			_, _, asked := askNowByHand(t, c, someAsk(t), id, 30)
			checkAskNow(t, c, someAsk(t), id, 30, asked)
			got := slices.ContainsFunc(c.Gots, func(g impl.Got) bool { return g.Id == id })
			checkGot(t, c, id, got)
		}
		for _, n := range []int{-1, 0, 1, 30, 31, 99979, 99980, 100000, math.MaxInt} {
			_, ok := tickByHand(c, n)
			checkTick(t, c, n, ok)
		}
	}
	for code := range 5 {
		if codes[code] < 15 {
			t.Errorf("%v: too few", codes)
		}
	}
}

// TestTwoWaitsWithOneId: what waits no more is the one that was answered.
func TestTwoWaitsWithOneId(t *testing.T) {
	c := changedClient(someClient(t), func(c *impl.Client) { c.Waits[2].Id = 700 })
	after := checkHear(t, c, toldTo(t, c.Waits[2]), 0)
	if !slices.Equal(after.Waits, c.Waits[:2]) {
		t.Fatalf("%#v", after.Waits)
	}
	both := checkHear(t, after, toldTo(t, c.Waits[0]), 0)
	checkIds(t, both, []int{5}, []int{8, 2, 1, 700, 700}, []int{9, 3})
	if got := checkGot(t, both, 700, true); got.Nonce != 6 {
		t.Fatalf("Got is %#v", got)
	}
	checkIds(t, checkTick(t, c, 31, true), nil, []int{8, 2, 1}, []int{9, 3, 700, 5, 700})
}

// life: one who asks, and what was asked, said and sent by others meanwhile.
type life struct {
	c      impl.Client
	v      impl.Server
	asked  map[int]impl.Wait
	posed  []string
	said   []string
	counts map[string]int
	source *rand.Rand
}

func (l *life) oneOf(list []string) string {
	if len(list) == 0 {
		return ""
	}
	return list[l.source.Intn(len(list))]
}

// ask: of few kinds, so that many are alike.
func (l *life) ask(t *testing.T) {
	t.Helper()
	names := []string{"leaf", "gone", "top leaf", "stray nobody"}[l.source.Intn(4)]
	a := impl.Ask{Targets: targetsOf(t, names), Plan: []int{0, 3, 7, 4}[l.source.Intn(4)], Want: 3, Nonce: l.source.Intn(4), Cached: l.source.Intn(2) == 0}
	id, span := 1+l.source.Intn(40), l.source.Intn(25)
	_, _, ok := askNowByHand(t, l.c, a, id, span)
	after, text := checkAskNow(t, l.c, a, id, span, ok)
	if l.c = after; ok {
		l.asked[id] = after.Waits[len(after.Waits)-1]
		l.posed = append(l.posed, text)
		l.counts["asked"]++
	} else {
		l.counts["not asked"]++
	}
}

// forged: what someone else makes of what is known to all: with a key of their own, of texts that were turned, or what was said to others.
func (l *life) forged(t *testing.T) string {
	t.Helper()
	text := l.oneOf(l.posed)
	a, _ := askByLibrary(t, text)
	switch l.source.Intn(4) {
	case 0:
		return wholeReply(t, told(t, text, a.Nonce, l.source.Intn(4)))
	case 1:
		said := l.oneOf(l.said)
		if said == "" {
			return said
		}
		return turned(said, l.source.Intn(len(said)), 1<<l.source.Intn(8))
	case 2:
		a.Time = 30
		return wholeReply(t, replyForByHand(t, l.v, textByLibrary(t, askByHand(t, a))))
	}
	return wholeReply(t, told(t, text, l.source.Intn(41), 4))
}

func (l *life) hear(t *testing.T, text string) {
	t.Helper()
	after, code := hearAny(t, l.c, text)
	l.c = after
	l.counts[fmt.Sprint("heard ", code)]++
}

// checkBelieved: promise 18: each Got was asked for, is bound to its own question, and signed by whom it trusts; and is told once.
func (l *life) checkBelieved(t *testing.T) {
	t.Helper()
	ids := []string{}
	for _, g := range l.c.Gots {
		w, isAsked := l.asked[g.Id]
		if r := g.Reply; !isAsked || r.Nonce != w.Sent || r.Hash != digestByLibrary(w.Text) || !sigOkByLibrary(impl.PublicAt(4), replyBodyTextByHand(t, r), r.Sig) {
			t.Fatalf("Got %#v of %#v", g, w)
		}
		ids = append(ids, fmt.Sprint(g.Id))
	}
	for _, w := range l.c.Waits {
		if w != l.asked[w.Id] || w.Due < l.c.Now {
			t.Fatalf("at %d waits %#v, asked was %#v", l.c.Now, w, l.asked[w.Id])
		}
		ids = append(ids, fmt.Sprint(w.Id))
	}
	if len(l.c.Waits) > impl.MaxWait || !noTwoAlike(ids) || l.c.Key != impl.PublicAt(4) {
		t.Fatalf("%#v", l.c)
	}
}

// TestDrawnClients: promise 18: whatever others send, what is Got is for its own question, and signed by whom it trusts.
func TestDrawnClients(t *testing.T) {
	source := rand.New(rand.NewSource(18))
	counts := map[string]int{}
	for range 40 {
		l := &life{c: impl.ClientNew(impl.PublicAt(4)), v: someServer(t), asked: map[int]impl.Wait{}, counts: counts, source: source}
		for range 40 {
			switch source.Intn(8) {
			case 0, 1, 2:
				l.ask(t)
			case 3, 4:
				if text := l.oneOf(l.posed); text != "" {
					v, said := impl.Serve(l.v, text)
					l.v, l.said = v, append(l.said, said)
					l.hear(t, said)
				}
			case 5:
				l.hear(t, l.oneOf(l.said))
			case 6:
				l.hear(t, l.forged(t))
			default:
				before := len(l.c.Late)
				l.c = checkTick(t, l.c, source.Intn(6), true)
				l.counts["late"] += len(l.c.Late) - before
			}
			l.checkBelieved(t)
		}
	}
	for _, kind := range []string{"asked", "not asked", "heard 0", "heard 1", "heard 2", "heard 3", "heard 4", "late"} {
		if counts[kind] < 20 {
			t.Errorf("%v: too few of %s", counts, kind)
		}
	}
}

// TestClientsFromOneMemory: lists and texts that lie in one memory are each handed out in one of their own.
func TestClientsFromOneMemory(t *testing.T) {
	ids := []int{700, 5, 6, 7}
	for i, r := range repliesInOneMemory(t) {
		w := waitOf(t, 700, "leaf", false, 20)
		text := toldTo(t, w)
		c := impl.Client{Key: impl.PublicAt(4), Now: 20, Waits: []impl.Wait{w, {Id: 5, Sent: 5, Text: w.Text, Due: 40}, {Id: 6, Text: w.Text[3:], Due: 20}}, Gots: []impl.Got{{Id: 8, Reply: r}, {Id: 9, Reply: r}, {Id: 9, Reply: repliesInOneMemory(t)[i]}}, Late: ids[:i%4]}
		want := clonedClient(c)
		for name, step := range map[string]func() impl.Client{
			"AskNow":    func() impl.Client { d, _, _ := impl.AskNow(c, impl.Ask{Targets: []string{w.Text}}, 10, 30); return d },
			"no AskNow": func() impl.Client { d, _, _ := impl.AskNow(c, impl.Ask{}, 10, 30); return d },
			"Hear":      func() impl.Client { d, _ := impl.Hear(c, text); return d },
			"no Hear":   func() impl.Client { d, _ := impl.Hear(c, "x"); return d },
			"Tick":      func() impl.Client { d, _ := impl.Tick(c, 1); return d },
			"no Tick":   func() impl.Client { d, _ := impl.Tick(c, -1); return d },
		} {
			first, second := step(), step()
			kept := clonedClient(second)
			checkOwnClient(t, name, first, c, second, impl.Client{Key: text})
			spoilClient(first)
			if !sameClient(c, want) || !sameClient(second, kept) || !sameClient(step(), kept) {
				t.Fatalf("%s hands out what it keeps, or its argument", name)
			}
		}
		for _, id := range []int{8, 9} {
			checkGot(t, c, id, true)
		}
	}
}

// TestOneReplyGotTwice: two Gots of one text, and GotOf of both, share nothing.
func TestOneReplyGotTwice(t *testing.T) {
	w := waitOf(t, 5, "leaf", true, 50)
	other := w
	other.Id = 6
	text := toldTo(t, w)
	c := checkHear(t, checkHear(t, impl.Client{Key: impl.PublicAt(4), Waits: []impl.Wait{w, other}}, text, 0), text, 0)
	checkIds(t, c, nil, []int{5, 6}, nil)
	first, _ := impl.GotOf(c, 5)
	spoilReply(c.Gots[0].Reply)
	second, _ := impl.GotOf(c, 6)
	if want := readReplyBack(t, text); !sameReply(first, want) || !sameReply(second, want) {
		t.Fatalf("%#v, %#v, want %#v", first, second, want)
	}
}

// TestEmptyListsOfClients: nil, and lists of nothing, are the same; neither is handed on.
func TestEmptyListsOfClients(t *testing.T) {
	room := waitsFrom(1, 3)
	gots, late := make([]impl.Got, 3), make([]int, 3)
	for _, c := range []impl.Client{{Now: 20}, {Now: 20, Waits: []impl.Wait{}, Gots: []impl.Got{}, Late: []int{}}, {Now: 20, Waits: room[:0], Gots: gots[:0], Late: late[:0]}} {
		checkAskNow(t, c, someAsk(t), 5, 30, true)
		checkAskNow(t, c, impl.Ask{}, 5, 30, false)
		checkHear(t, c, toldTo(t, waits(t)[0]), 2)
		checkTick(t, c, 5, true)
		checkTick(t, c, -5, false)
		checkGot(t, c, 0, false)
		d, _, _ := impl.AskNow(c, impl.Ask{}, 5, 30)
		d.Waits, d.Gots, d.Late = append(d.Waits, impl.Wait{}), append(d.Gots, impl.Got{Id: 7}), append(d.Late, 7)
		if !slices.Equal(room, waitsFrom(1, 3)) || gots[0].Id != 0 || late[0] != 0 {
			t.Fatal("the room behind an empty list is handed out")
		}
	}
}

// TestGreatClients: they are answered, too, and soon.
func TestGreatClients(t *testing.T) {
	c := impl.Client{Key: impl.PublicAt(4), Now: 20, Waits: waitsFrom(1, 60000), Gots: manyOf(60000, func(i int) impl.Got { return impl.Got{Id: -i, Reply: impl.Reply{Nonce: i}} }), Late: make([]int, 60000)}
	if d, text, ok := impl.AskNow(c, someAsk(t), 70000, 30); ok || text != "" || !sameClient(d, c) {
		t.Fatal("asked, though more wait than may")
	}
	if d, ok := impl.Tick(c, 21); !ok || len(d.Waits) != 0 || len(d.Late) != 120000 || d.Late[60000] != 1 || d.Late[119999] != 60000 {
		t.Fatalf("%v: %d wait, %d are Late", ok, len(d.Waits), len(d.Late))
	}
	last := c.Waits[59999]
	if d, code := impl.Hear(c, toldTo(t, last)); code != 0 || len(d.Waits) != 59999 || d.Gots[60000].Id != 60000 {
		t.Fatalf("%d: %d wait", code, len(d.Waits))
	}
	if r, ok := impl.GotOf(c, -59999); !ok || r.Nonce != 59999 {
		t.Fatalf("GotOf = %#v %v", r, ok)
	}
}

// TestClientsAtOnce: many may ask and hear at once, and each is told the same.
func TestClientsAtOnce(t *testing.T) {
	c, a := someClient(t), impl.Ask{Targets: targetsOf(t, "leaf"), Want: 3}
	text := toldTo(t, c.Waits[1])
	asked, _ := checkAskNow(t, c, a, 10, 30, true)
	heard := checkHear(t, c, text, 0)
	late := checkTick(t, c, 25, true)
	wrong := make([]int, 16)
	var all sync.WaitGroup
	for i := range wrong {
		all.Go(func() {
			for range 5 {
				first, _, _ := impl.AskNow(c, a, 10, 30)
				second, _ := impl.Hear(c, text)
				third, _ := impl.Tick(c, 25)
				fourth, code := impl.Hear(c, "x")
				if !sameClient(first, asked) || !sameClient(second, heard) || !sameClient(third, late) || !sameClient(fourth, c) || code != 1 {
					wrong[i]++
				}
			}
		})
	}
	all.Wait()
	if slices.Max(wrong) > 0 {
		t.Errorf("%v: told otherwise", wrong)
	}
}

// TestClientsRememberNothing: what one was asked, or was refused, another one knows nothing of.
func TestClientsRememberNothing(t *testing.T) {
	c, a := someClient(t), impl.Ask{Targets: targetsOf(t, "leaf"), Want: 3}
	codes := map[string]int{}
	for _, w := range c.Waits {
		codes[toldTo(t, w)] = 0
	}
	codes["x"], codes[wholeReply(t, told(t, "x", 700, 4))], codes[wholeReply(t, told(t, "x", 701, 4))], codes[wholeReply(t, told(t, c.Waits[0].Text, 700, 3))] = 1, 4, 3, 2
	for range 3 {
		for _, text := range slices.Sorted(maps.Keys(codes)) {
			checkHear(t, c, text, codes[text])
			checkAskNow(t, c, a, 10, 30, true)
			checkAskNow(t, c, a, 8, 30, false)
			checkTick(t, c, 31, true)
			checkTick(t, c, -1, false)
			checkGot(t, c, 8, true)
			checkGot(t, c, 10, false)
		}
	}
}
