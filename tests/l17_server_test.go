package tests

import (
	"crypto/sha256"
	"fmt"
	"maps"
	"math"
	"math/rand"
	"slices"
	"strings"
	"sync"
	"testing"

	"loop.example/g00394/impl"
)

func TestServerConstants(t *testing.T) {
	if impl.MaxKept != 3 {
		t.Errorf("MaxKept is %d", impl.MaxKept)
	}
}

// changesOfName: what changed since the list of Num base, of this name, signed by its house.
func changesOfName(t *testing.T, issuer string, base, num int, revs ...impl.Rev) impl.Crl {
	t.Helper()
	return signedListBy(t, houseOf(issuer), impl.Crl{Issuer: issuer, Num: num, This: 10, Next: 90, Base: base, Revs: revs})
}

func signedListBy(t *testing.T, house int, x impl.Crl) impl.Crl {
	t.Helper()
	x.Sig = signByLibrary(t, house, listBodyTextByHand(t, x))
	return x
}

// knownLists: two of root and its changes, one of a, the changes of b and its list, one of org that is good till 30 alone, and one of leaf, who is asked for.
func knownLists(t *testing.T) []impl.Crl {
	t.Helper()
	return []impl.Crl{
		changesOfName(t, "b", 5, 6, impl.Rev{Serial: 7, Reason: 4}), listOfName(t, "leaf", 1), listOfName(t, "root", 1, 1, 2, 3), changesOfName(t, "root", 3, 4), listOfName(t, "root", 3), listOfName(t, "a", 2, 9), listOfName(t, "b", 5, 8),
		signedListBy(t, houseOf("org"), impl.Crl{Issuer: "org", Num: 1, This: 10, Next: 30}),
	}
}

func knownStore(t *testing.T) impl.Store {
	t.Helper()
	return impl.Store{Certs: signedByName(t, links("root>a a>b org>b net>c")...), Crls: knownLists(t), Anchors: anchorsOf("root", "org", "net")}
}

// knownPlans: no Id is the place of its plan, but for the first.
func knownPlans() []impl.Plan {
	return []impl.Plan{
		{Id: 0, Anchors: []int{0}},
		{Id: 3, Anchors: []int{0, 1}, Rules: impl.Rules{Time: 95, Check: true, Usage: impl.UseData}},
		{Id: 7, Anchors: []int{1}, Rules: impl.Rules{Policies: []int{1}, Explicit: true}},
		{Id: 50, Anchors: []int{2}},
		{Id: 99, Anchors: []int{0, 1, 2}, Rules: impl.Rules{Policies: []int{2}}},
	}
}

func someServer(t *testing.T) impl.Server {
	t.Helper()
	return impl.Server{Store: knownStore(t), Plans: knownPlans(), House: 4, Now: 20, Fresh: 30}
}

// targetNames: of letters that may be asked for, and of a text that is none.
func targetNames() []string {
	return strings.Fields("leaf gone old late top net stray forged nobody")
}

// targetOf: the text of the letter that goes by this name.
func targetOf(t *testing.T, name string) string {
	t.Helper()
	told := map[string]string{"leaf": "b>leaf", "gone": "b>gone", "old": "b>old", "late": "b>late", "top": "root>top", "net": "c>t", "stray": "x>stray", "forged": "b>leaf"}[name]
	if told == "" {
		return "no letter"
	}
	c := link(6+slices.Index(targetNames(), name), told)
	if name == "late" {
		c.To = 40
	}
	if c = signedByName(t, c)[0]; name == "forged" {
		c.Sig = signByLibrary(t, 5, bodyTextByHand(t, c))
	}
	return textByLibrary(t, letterByHand(t, c))
}

func targetsOf(t *testing.T, names string) []string {
	t.Helper()
	list := []string{}
	for _, name := range strings.Fields(names) {
		list = append(list, targetOf(t, name))
	}
	return list
}

// askOf: the text of a right question.
func askOf(t *testing.T, a impl.Ask) string {
	t.Helper()
	if !askRight(a) {
		t.Fatalf("%#v: the case is none", a)
	}
	return textByLibrary(t, askByHand(t, a))
}

// generalAsk: the text of a question for these, by the plan 0, of which what is said may be kept.
func generalAsk(t *testing.T, names string) string {
	t.Helper()
	return askOf(t, impl.Ask{Targets: targetsOf(t, names), Want: 3, Cached: true})
}

func clonedServer(v impl.Server) impl.Server {
	v.Store, v.Plans, v.Kept = clonedStore(v.Store), clonedPlans(v.Plans), slices.Clone(v.Kept)
	return v
}

// changedServer: the server with one thing done to it, in memory of its own.
func changedServer(v impl.Server, change func(v *impl.Server)) impl.Server {
	own := clonedServer(v)
	change(&own)
	return own
}

func sameServer(a, b impl.Server) bool {
	return sameStore(a.Store, b.Store) && slices.EqualFunc(a.Plans, b.Plans, samePlan) && a.House == b.House && a.Now == b.Now && a.Fresh == b.Fresh && slices.Equal(a.Kept, b.Kept)
}

// guardedServer: v with room behind all of its lists, and whether all of that is still as it was.
func guardedServer(v impl.Server) (impl.Server, func() bool) {
	store, storeUntouched := guardedStore(v.Store)
	plans, plansUntouched := guardedPlans(v.Plans)
	behind := impl.Kept{Ask: "behind", Reply: "behind", Until: 77}
	room := append(slices.Clone(v.Kept), behind, behind, behind)
	before := slices.Clone(room)
	handed := v
	handed.Store, handed.Plans, handed.Kept = store, plans, room[:len(v.Kept)]
	return handed, func() bool {
		return storeUntouched() && plansUntouched() && slices.Equal(room, before) && sameServer(handed, v)
	}
}

// serverMemory: where all lists of a server lie, with the room behind them.
func serverMemory(v impl.Server) []stretch {
	list := []stretch{memoryOf(v.Store.Certs), memoryOf(v.Store.Crls), memoryOf(v.Store.Anchors), memoryOf(v.Plans), memoryOf(v.Kept)}
	for _, c := range v.Store.Certs[:cap(v.Store.Certs)] {
		list = append(list, letterMemory(c)...)
	}
	for _, x := range v.Store.Crls[:cap(v.Store.Crls)] {
		list = append(list, memoryOf(x.Revs))
	}
	for _, p := range v.Plans[:cap(v.Plans)] {
		list = append(list, memoryOf(p.Anchors), memoryOf(p.Rules.Policies))
	}
	return slices.DeleteFunc(list, func(one stretch) bool { return one.from == one.to })
}

func serverTexts(v impl.Server) []string {
	list := []string{}
	for _, c := range v.Store.Certs {
		list = append(list, letterTexts(c)...)
	}
	for _, x := range v.Store.Crls {
		list = append(list, x.Issuer, x.Sig)
	}
	for _, a := range v.Store.Anchors {
		list = append(list, a.Name, a.Key)
	}
	for _, k := range v.Kept {
		list = append(list, k.Ask, k.Reply)
	}
	return list
}

// checkOwnTexts: no text of the answer lies in the memory of another one.
func checkOwnTexts(t *testing.T, name string, answer, other []string) {
	t.Helper()
	for _, one := range answer {
		if slices.ContainsFunc(other, func(text string) bool { return shares(one, text) }) {
			t.Fatalf("%s: the text %.80q shares memory with an argument, or another answer", name, one)
		}
	}
}

// checkOwnServer: no list of the answer lies where another one of it does, nor where one of these servers has one; nor does a text.
func checkOwnServer(t *testing.T, name string, answer impl.Server, others ...impl.Server) {
	t.Helper()
	own := serverMemory(answer)
	for i, one := range own {
		if slices.ContainsFunc(own[:i], one.meets) {
			t.Fatalf("%s: two lists of one answer share memory", name)
		}
	}
	for _, other := range others {
		memory := serverMemory(other)
		if slices.ContainsFunc(own, func(one stretch) bool { return slices.ContainsFunc(memory, one.meets) }) {
			t.Fatalf("%s: a list shares memory with an argument, or another answer", name)
		}
		checkOwnTexts(t, name, serverTexts(answer), serverTexts(other))
	}
}

func spoilServer(v impl.Server) {
	spoilStore(v.Store)
	plans, kept := v.Plans[:cap(v.Plans)], v.Kept[:cap(v.Kept)]
	for i := range plans {
		spoil(plans[i].Anchors)
		spoil(plans[i].Rules.Policies)
		plans[i] = impl.Plan{Id: -5}
	}
	for i := range kept {
		kept[i] = impl.Kept{Ask: "spoilt", Reply: "spoilt", Until: -5}
	}
}

// serverRight: ServerOk by hand.
func serverRight(t *testing.T, v impl.Server) bool {
	t.Helper()
	for _, one := range []struct{ n, most int }{{v.House, 5}, {v.Now, 9999}, {v.Fresh, 9999}, {len(v.Kept), 3}} {
		if one.n < 0 || one.n > one.most {
			return false
		}
	}
	return storeRight(t, v.Store) && plansRight(v.Plans, len(v.Store.Anchors))
}

func checkServerOk(t *testing.T, v impl.Server, want bool) {
	t.Helper()
	if byHand := serverRight(t, v); byHand != want {
		t.Fatalf("%#v: the case is none, by hand it is %v", v, byHand)
	}
	handed, untouched := guardedServer(v)
	if got := impl.ServerOk(handed); got != want || !untouched() {
		t.Fatalf("ServerOk(%#v) = %v, want %v; untouched: %v", v, got, want, untouched())
	}
}

// keptOf: so many, each of another text.
func keptOf(count int) []impl.Kept {
	return manyOf(count, func(i int) impl.Kept {
		return impl.Kept{Ask: fmt.Sprint("asked ", i), Reply: fmt.Sprint("said ", i), Until: 20 + i}
	})
}

func TestServerOk(t *testing.T) {
	checkServerOk(t, impl.Server{}, true)
	for _, v := range []impl.Server{{}, someServer(t), {Store: fullStore(), Plans: somePlans(), House: 5, Now: 9999, Fresh: 9999, Kept: keptOf(3)}} {
		for _, n := range edgeNumbers() {
			checkServerOk(t, changedServer(v, func(v *impl.Server) { v.House = n }), n >= 0 && n <= 5)
			checkServerOk(t, changedServer(v, func(v *impl.Server) { v.Now = n }), n >= 0 && n <= 9999)
			checkServerOk(t, changedServer(v, func(v *impl.Server) { v.Fresh = n }), n >= 0 && n <= 9999)
		}
		for house := -2; house < 9; house++ {
			checkServerOk(t, changedServer(v, func(v *impl.Server) { v.House = house }), house >= 0 && house < impl.Secrets)
		}
		for count := range 8 {
			checkServerOk(t, changedServer(v, func(v *impl.Server) { v.Kept = keptOf(count) }), count <= 3)
		}
		checkServerOk(t, changedServer(v, func(v *impl.Server) { v.Kept = keptOf(1000) }), false)
		// What is Kept, and till when, nobody asks.
		for _, until := range edgeNumbers() {
			checkServerOk(t, changedServer(v, func(v *impl.Server) { v.Kept = slices.Repeat([]impl.Kept{{Until: until}}, 3) }), true)
		}
	}
}

// TestServersWithWrongParts: a store or plans that are not right, alone and with other faults.
func TestServersWithWrongParts(t *testing.T) {
	base := impl.Server{Store: anchoredStore(3), Plans: somePlans(), House: 4, Now: 20, Fresh: 30}
	checkServerOk(t, base, true)
	for _, s := range append(wrongStores(), storesToTry()...) {
		v := impl.Server{Store: s}
		checkServerOk(t, v, storeRight(t, s))
		v.Plans = []impl.Plan{{Id: 1, Anchors: []int{1}}}
		checkServerOk(t, v, storeRight(t, s) && len(s.Anchors) > 1)
	}
	for _, change := range wrongPlanChanges() {
		for at := range base.Plans {
			v := changedServer(base, func(v *impl.Server) { change(&v.Plans[at]) })
			checkServerOk(t, v, false)
			v.Now, v.House = -1, 6
			checkServerOk(t, v, false)
		}
	}
	for count := range 9 {
		checkServerOk(t, changedServer(base, func(v *impl.Server) { v.Plans = plansFrom(0, count) }), count <= 6)
	}
	for anchors := range 4 {
		checkServerOk(t, changedServer(base, func(v *impl.Server) { v.Store.Anchors = v.Store.Anchors[:anchors] }), anchors == 3)
	}
	faults := []func(v *impl.Server){func(v *impl.Server) { v.House = 6 }, func(v *impl.Server) { v.Now = 10000 }, func(v *impl.Server) { v.Fresh = -1 }, func(v *impl.Server) { v.Kept = keptOf(4) }, func(v *impl.Server) { v.Store.Crls[0].Num = 0 }, func(v *impl.Server) { v.Plans[1].Id = 0 }}
	for i, first := range faults {
		for _, second := range faults[i:] {
			v := changedServer(base, first)
			second(&v)
			checkServerOk(t, v, false)
		}
	}
}

// answerByHand: as the chapter tells it, by the ways and lists that are found by hand.
func answerByHand(t *testing.T, v impl.Server, a impl.Ask, target string) impl.Answer {
	t.Helper()
	c, isLetter := letterByLibrary(t, target)
	plans := slices.DeleteFunc(slices.Clone(v.Plans), func(p impl.Plan) bool { return p.Id != a.Plan })
	if !isLetter || len(plans) == 0 {
		return impl.Answer{Status: 2, Why: 2}
	}
	s, r := v.Store, plans[0].Rules
	s.Anchors = nil
	for _, place := range plans[0].Anchors {
		if place >= 0 && place < len(v.Store.Anchors) {
			s.Anchors = append(s.Anchors, v.Store.Anchors[place])
		}
	}
	if r.Time = a.Time; a.Time == 0 {
		r.Time = v.Now
	}
	place, code, ways := findByHand(t, s, c, r)
	if place < 0 {
		return impl.Answer{Status: 1, Why: code}
	}
	x, ahead := impl.Answer{}, s.Anchors[ways[place].Anchor]
	for _, c := range ways[place].Path {
		x.Path = append(x.Path, textByLibrary(t, letterByHand(t, c)))
		told := crlsByHand(t, s.Crls, ahead.Name, ahead.Key, r.Time)
		if whole, ok := wholeByHand(told); ok {
			x.Lists = append(x.Lists, textByLibrary(t, listByHand(t, whole)))
			if delta, changes := deltaByHand(told, whole); changes {
				x.Lists = append(x.Lists, textByLibrary(t, listByHand(t, delta)))
			}
		}
		ahead = impl.Anchor{Name: c.Subject, Key: c.Key}
	}
	if a.Want%2 == 0 {
		x.Path = nil
	}
	if a.Want/2%2 == 0 {
		x.Lists = nil
	}
	return x
}

// checkAnswer: held whole, against the chapter's words by hand, and against memory that is not its own.
func checkAnswer(t *testing.T, v impl.Server, a impl.Ask, target string) impl.Answer {
	t.Helper()
	want := answerByHand(t, v, a, target)
	handed, untouched := guardedServer(v)
	ask, askUntouched := guardedAsk(a)
	first, second := impl.AnswerFor(handed, ask, target), impl.AnswerFor(handed, ask, target)
	if !sameAnswersByHand([]impl.Answer{first, second}, []impl.Answer{want, want}) {
		t.Fatalf("AnswerFor(%#v, %#v, %q) = %#v, %#v, want %#v", v, a, target, first, second, want)
	}
	one, other := impl.Reply{Answers: []impl.Answer{first}}, impl.Reply{Answers: []impl.Answer{second}}
	checkOwnReply(t, "AnswerFor", one, other, impl.Reply{Answers: []impl.Answer{{Path: serverTexts(handed), Lists: append(slices.Clone(ask.Targets), target)}}})
	checkListsApart(t, "AnswerFor", one)
	spoilReply(one)
	if !sameAnswersByHand([]impl.Answer{second}, []impl.Answer{want}) || !untouched() || !askUntouched() || !sameAsk(ask, a) {
		t.Fatalf("AnswerFor(%#v, %#v, %q) writes into them, or hands out one memory twice", v, a, target)
	}
	return second
}

// toldAnswer: of an answer the Status and Why, who tells whom in its Path, and the issuers of its Lists and their Nums.
func toldAnswer(t *testing.T, x impl.Answer) string {
	t.Helper()
	told := []string{fmt.Sprint(x.Status, "/", x.Why)}
	for _, text := range x.Path {
		c, ok := letterByLibrary(t, text)
		if !ok {
			t.Fatalf("%q is no letter", text)
		}
		told = append(told, c.Issuer+">"+c.Subject)
	}
	for _, text := range x.Lists {
		list, ok := listByLibrary(t, text)
		if !ok {
			t.Fatalf("%q is no list", text)
		}
		told = append(told, fmt.Sprint(list.Issuer, list.Num))
	}
	return strings.Join(told, " ")
}

func checkTold(t *testing.T, v impl.Server, a impl.Ask, name, want string) {
	t.Helper()
	if got := toldAnswer(t, checkAnswer(t, v, a, targetOf(t, name))); got != want {
		t.Fatalf("plan %d, Want %d, Time %d, Now %d, %s: %q, want %q", a.Plan, a.Want, a.Time, v.Now, name, got, want)
	}
}

func TestAnswers(t *testing.T) {
	byRoot, listsByRoot := "root>a a>b b>", "root3 root4 a2 b5 b6"
	for _, one := range []struct {
		plan, want, time, now int
		name, told            string
	}{
		{0, 3, 0, 20, "leaf", "0/0 " + byRoot + "leaf " + listsByRoot},
		{0, 1, 0, 20, "leaf", "0/0 " + byRoot + "leaf"},
		{0, 2, 0, 20, "leaf", "0/0 " + listsByRoot},
		{0, 0, 0, 20, "leaf", "0/0"},
		{0, 3, 0, 20, "top", "0/0 root>top root3 root4"},
		{0, 2, 0, 20, "top", "0/0 root3 root4"},
		{0, 3, 0, 20, "stray", "1/1"}, {0, 3, 0, 20, "net", "1/1"}, {0, 3, 0, 20, "forged", "1/5"}, {0, 3, 0, 20, "nobody", "2/2"},
		// Called back is only who is asked for so.
		{0, 3, 0, 20, "gone", "0/0 " + byRoot + "gone " + listsByRoot}, {0, 3, 0, 20, "old", "0/0 " + byRoot + "old " + listsByRoot},
		{3, 3, 0, 20, "gone", "1/6"}, {3, 3, 0, 20, "old", "1/6"}, {3, 3, 0, 20, "leaf", "0/0 " + byRoot + "leaf " + listsByRoot}, {3, 0, 0, 20, "leaf", "0/0"}, {3, 1, 0, 20, "top", "0/0 root>top"},
		// The question's own Time, and Now; not the plan's.
		{0, 3, 0, 20, "late", "0/0 " + byRoot + "late " + listsByRoot}, {0, 3, 0, 41, "late", "1/4"}, {0, 3, 40, 41, "late", "0/0 " + byRoot + "late " + listsByRoot}, {0, 3, 41, 20, "late", "1/4"}, {3, 3, 91, 20, "leaf", "1/4"}, {0, 3, 0, 9, "leaf", "1/4"}, {0, 1, 10, 9, "leaf", "0/0 " + byRoot + "leaf"}, {0, 1, 0, 90, "leaf", "0/0 " + byRoot + "leaf"}, {0, 3, 0, 0, "leaf", "1/4"}, {0, 3, 0, 9999, "leaf", "1/4"}, {0, 2, 9999, 20, "leaf", "1/4"},
		// By another anchor, and its lists at each time.
		{7, 3, 0, 20, "leaf", "0/0 org>b b>leaf org1 b5 b6"}, {7, 3, 30, 20, "leaf", "0/0 org>b b>leaf org1 b5 b6"}, {7, 3, 31, 20, "leaf", "0/0 org>b b>leaf b5 b6"}, {7, 2, 0, 31, "leaf", "0/0 b5 b6"}, {7, 2, 20, 31, "gone", "0/0 org1 b5 b6"}, {7, 3, 0, 20, "top", "1/1"},
		{50, 3, 0, 20, "net", "0/0 net>c c>t"}, {50, 2, 0, 20, "net", "0/0"}, {50, 3, 0, 20, "leaf", "1/1"}, {99, 3, 0, 20, "leaf", "1/8"}, {99, 3, 0, 20, "net", "1/8"}, {99, 3, 95, 20, "net", "1/4"},
		// No such plan, though there is one at that place.
		{1, 3, 0, 20, "leaf", "2/2"}, {2, 3, 0, 20, "stray", "2/2"}, {4, 0, 0, 20, "nobody", "2/2"}, {98, 3, 0, 20, "leaf", "2/2"}, {-1, 3, 0, 20, "leaf", "2/2"}, {100, 3, 0, 20, "leaf", "2/2"},
	} {
		v := someServer(t)
		v.Now = one.now
		checkTold(t, v, impl.Ask{Plan: one.plan, Want: one.want, Time: one.time}, one.name, one.told)
		// Of the question nothing else counts.
		checkTold(t, v, impl.Ask{Targets: targetsOf(t, "top nobody"), Plan: one.plan, Want: one.want, Time: one.time, Nonce: 5, Cached: true}, one.name, one.told)
	}
}

// TestAnswersOfAllKinds: each plan, each letter, each Want, at several times.
func TestAnswersOfAllKinds(t *testing.T) {
	counts := map[string]int{}
	for _, now := range []int{20, 35, 50} {
		v := someServer(t)
		v.Now = now
		for _, plan := range []int{0, 1, 3, 7, 50, 99} {
			for _, name := range targetNames() {
				target := targetOf(t, name)
				for want := range 4 {
					for _, time := range []int{0, 20, 91} {
						x := checkAnswer(t, v, impl.Ask{Plan: plan, Want: want, Time: time}, target)
						counts[fmt.Sprint(x.Status, x.Why, len(x.Path), len(x.Lists))]++
					}
				}
			}
		}
	}
	if len(counts) < 14 {
		t.Errorf("%v: too few of a kind", counts)
	}
}

// TestNoLettersAreTold: of a text that is no letter, whatever it is.
func TestNoLettersAreTold(t *testing.T) {
	v, letter := someServer(t), targetOf(t, "leaf")
	for _, text := range append(noLetters(t), letter[1:], letter[:len(letter)-1], letter+"\x00", letter+letter, strings.ToUpper(letter)) {
		for _, a := range []impl.Ask{{}, {Plan: 3, Want: 3}, {Plan: 2}} {
			if x := checkAnswer(t, v, a, text); toldAnswer(t, x) != "2/2" {
				t.Fatalf("AnswerFor(.., %q) = %#v", text, x)
			}
		}
	}
}

// TestListsThatAreTold: of root, a and b, who signed the way to leaf: which lists, and in which order.
func TestListsThatAreTold(t *testing.T) {
	root, a, b := listOfName(t, "root", 3), listOfName(t, "a", 2), listOfName(t, "b", 5)
	rootLater, bLater := changesOfName(t, "root", 3, 4), changesOfName(t, "b", 5, 6, impl.Rev{Serial: 7, Reason: 8})
	times := func(x impl.Crl, this, next int) impl.Crl {
		x.This, x.Next = this, next
		return signedListBy(t, houseOf(x.Issuer), x)
	}
	by := func(name string, x impl.Crl) impl.Crl { return signedListBy(t, houseOf(name), x) }
	spoilt := changedList(a, func(x *impl.Crl) { x.Sig = turned(x.Sig, 14, 1) })
	for _, one := range []struct {
		lists []impl.Crl
		told  string
	}{
		{nil, ""}, {[]impl.Crl{root, a, b}, "root3 a2 b5"}, {[]impl.Crl{b, a, root}, "root3 a2 b5"}, {[]impl.Crl{a}, "a2"}, {[]impl.Crl{b, root}, "root3 b5"},
		// First whole, then what changed; never the changes alone.
		{[]impl.Crl{rootLater, root}, "root3 root4"}, {[]impl.Crl{bLater, b, rootLater, root}, "root3 root4 b5 b6"}, {[]impl.Crl{rootLater, bLater, a}, "a2"}, {[]impl.Crl{rootLater}, ""},
		{[]impl.Crl{root, changesOfName(t, "root", 4, 5)}, "root3"}, {[]impl.Crl{root, changesOfName(t, "root", 2, 3)}, "root3"}, {[]impl.Crl{root, changesOfName(t, "root", 1, 2)}, "root3"}, {[]impl.Crl{root, rootLater, changesOfName(t, "root", 1, 9), changesOfName(t, "root", 4, 10)}, "root3 root9"},
		// The newest ones alone; of two of one Num the first.
		{[]impl.Crl{listOfName(t, "root", 2), root, listOfName(t, "root", 1)}, "root3"}, {[]impl.Crl{root, listOfName(t, "root", 4), rootLater}, "root4"}, {[]impl.Crl{listOfName(t, "root", 3, 500), root, changesOfName(t, "root", 1, 4), rootLater}, "root3 root4"}, {[]impl.Crl{root, listOfName(t, "root", 3, 500)}, "root3"},
		// At the time that is asked for.
		{[]impl.Crl{times(root, 20, 20), times(a, 21, 90), times(b, 10, 19)}, "root3"}, {[]impl.Crl{times(listOfName(t, "root", 9), 21, 90), root, times(rootLater, 10, 19)}, "root3"}, {[]impl.Crl{times(root, 0, 20), times(rootLater, 20, 9999)}, "root3 root4"},
		// By the key of the one ahead: not another one's, nor the next one's.
		{[]impl.Crl{by("c", root), by("root", a), b}, "b5"}, {[]impl.Crl{by("b", a), by("a", root), by("leaf", b)}, ""}, {[]impl.Crl{by("a", listOfName(t, "root", 9)), root, by("a", changesOfName(t, "root", 3, 9))}, "root3"}, {[]impl.Crl{spoilt, a, root}, "root3 a2"},
		// None of the one who is asked for, nor of those who stand beside the way.
		{[]impl.Crl{listOfName(t, "leaf", 1), listOfName(t, "org", 1), listOfName(t, "net", 1), listOfName(t, "c", 1), listOfName(t, "top", 1), root}, "root3"}, {[]impl.Crl{listOfName(t, "leaf", 1), changesOfName(t, "leaf", 1, 2)}, ""},
		// As many as there may be.
		{[]impl.Crl{b, bLater, a, changesOfName(t, "a", 2, 3), root, rootLater, listOfName(t, "leaf", 1), listOfName(t, "a", 1)}, "root3 root4 a2 a3 b5 b6"},
	} {
		v := someServer(t)
		v.Store.Crls = one.lists
		checkTold(t, v, impl.Ask{Want: 2}, "leaf", strings.TrimSpace("0/0 "+one.told))
		checkTold(t, v, impl.Ask{Want: 3}, "leaf", strings.TrimSpace("0/0 root>a a>b b>leaf "+one.told))
		checkTold(t, v, impl.Ask{Want: 1}, "leaf", "0/0 root>a a>b b>leaf")
		v.Now = 95
		checkTold(t, v, impl.Ask{Want: 2, Time: 20}, "leaf", strings.TrimSpace("0/0 "+one.told))
	}
}

// TestTheWayThatIsTold: the first one that holds, with the lists of those on it.
func TestTheWayThatIsTold(t *testing.T) {
	v := someServer(t)
	v.Plans = []impl.Plan{{Id: 5, Anchors: []int{0, 1}, Rules: impl.Rules{Check: true}}, {Id: 6, Anchors: []int{1, 2}}}
	checkTold(t, v, impl.Ask{Plan: 5, Want: 3}, "leaf", "0/0 root>a a>b b>leaf root3 root4 a2 b5 b6")
	checkTold(t, v, impl.Ask{Plan: 6, Want: 3}, "leaf", "0/0 org>b b>leaf org1 b5 b6")
	checkTold(t, v, impl.Ask{Plan: 6, Want: 3}, "net", "0/0 net>c c>t")
	// root calls its letter back: the way from org is the first that holds.
	v.Store.Crls[3] = changesOfName(t, "root", 3, 4, impl.Rev{Serial: 1, Reason: 2})
	checkTold(t, v, impl.Ask{Plan: 5, Want: 3}, "leaf", "0/0 org>b b>leaf org1 b5 b6")
	checkTold(t, v, impl.Ask{Plan: 5, Want: 3, Time: 31}, "leaf", "1/6")
	v.Store.Crls[3] = changesOfName(t, "root", 3, 4, impl.Rev{Serial: 1, Reason: 8})
	checkTold(t, v, impl.Ask{Plan: 5, Want: 3, Time: 31}, "leaf", "0/0 root>a a>b b>leaf root3 root4 a2 b5 b6")
}

// signedByHouse: by the house that there is; by none the Sig is empty.
func signedByHouse(t *testing.T, house int, r impl.Reply) impl.Reply {
	t.Helper()
	r.Sig = ""
	if house >= 0 && house < impl.Secrets {
		r.Sig = signByLibrary(t, house, replyBodyTextByHand(t, r))
	}
	return r
}

func replyForByHand(t *testing.T, v impl.Server, text string) impl.Reply {
	t.Helper()
	digest := sha256.Sum256([]byte(text))
	r := impl.Reply{Hash: string(digest[:]), Time: v.Now, Next: v.Now + v.Fresh}
	a, isAsk := askByLibrary(t, text)
	if !isAsk {
		r.Error = 1
		return signedByHouse(t, v.House, r)
	}
	if r.Nonce, r.Plan = a.Nonce, a.Plan; !slices.ContainsFunc(v.Plans, func(p impl.Plan) bool { return p.Id == a.Plan }) {
		r.Error = 2
		return signedByHouse(t, v.House, r)
	}
	for _, target := range a.Targets {
		r.Answers = append(r.Answers, answerByHand(t, v, a, target))
	}
	return signedByHouse(t, v.House, r)
}

// checkReplyFor: held whole, against the chapter's words by hand, and against memory that is not its own.
func checkReplyFor(t *testing.T, v impl.Server, text string) impl.Reply {
	t.Helper()
	want := replyForByHand(t, v, text)
	handed, untouched := guardedServer(v)
	first, second := impl.ReplyFor(handed, text), impl.ReplyFor(handed, text)
	if !sameReply(first, want) || !sameReply(second, want) {
		t.Fatalf("ReplyFor(%#v, %q) = %#v, %#v, want %#v", v, text, first, second, want)
	}
	checkOwnReply(t, "ReplyFor", first, second, impl.Reply{Hash: text, Answers: []impl.Answer{{Path: serverTexts(handed)}}})
	checkListsApart(t, "ReplyFor", first)
	spoilReply(first)
	if !sameReply(second, want) || !untouched() {
		t.Fatalf("ReplyFor(%#v, %q) writes into them, or hands out one memory twice", v, text)
	}
	return second
}

// checkSays: of the reply its numbers and answers are as told, and its Sig is by the House's key alone.
func checkSays(t *testing.T, v impl.Server, text string, numbers [5]int, told ...string) {
	t.Helper()
	r := checkReplyFor(t, v, text)
	if got := [5]int{r.Nonce, r.Time, r.Next, r.Plan, r.Error}; got != numbers || r.Hash != impl.Digest(text) {
		t.Fatalf("ReplyFor(.., %q): Nonce, Time, Next, Plan and Error are %d, want %d; Hash %x", text, got, numbers, r.Hash)
	}
	list := []string{}
	for _, x := range r.Answers {
		list = append(list, toldAnswer(t, x))
	}
	if !slices.Equal(list, told) {
		t.Fatalf("ReplyFor(.., %q): the answers are %q, want %q", text, list, told)
	}
	for house := range impl.Secrets {
		if ok := impl.SigOk(impl.PublicAt(house), impl.ReplyBody(r), r.Sig); ok != (house == v.House) {
			t.Fatalf("ReplyFor(.., %q): by the key of house %d the Sig is %v, the House is %d", text, house, ok, v.House)
		}
	}
}

func TestReplies(t *testing.T) {
	v := someServer(t)
	ask := func(names string, plan, want, nonce, time int, cached bool) string {
		return askOf(t, impl.Ask{Targets: targetsOf(t, names), Plan: plan, Want: want, Nonce: nonce, Time: time, Cached: cached})
	}
	checkSays(t, v, ask("leaf", 0, 0, 7, 0, false), [5]int{7, 20, 50, 0, 0}, "0/0")
	checkSays(t, v, ask("leaf", 3, 1, 0, 0, true), [5]int{0, 20, 50, 3, 0}, "0/0 root>a a>b b>leaf")
	checkSays(t, v, ask("gone leaf", 3, 2, 1000000000, 0, true), [5]int{1000000000, 20, 50, 3, 0}, "1/6", "0/0 root3 root4 a2 b5 b6")
	checkSays(t, v, ask("stray nobody top", 0, 3, 0, 0, false), [5]int{0, 20, 50, 0, 0}, "1/1", "2/2", "0/0 root>top root3 root4")
	checkSays(t, v, ask("top top leaf", 0, 1, 1, 0, false), [5]int{1, 20, 50, 0, 0}, "0/0 root>top", "0/0 root>top", "0/0 root>a a>b b>leaf")
	// The question's own Time is none of the reply's.
	checkSays(t, v, ask("late late late", 0, 1, 2, 91, false), [5]int{2, 20, 50, 0, 0}, "1/4", "1/4", "1/4")
	checkSays(t, v, ask("late leaf", 7, 2, 2, 35, true), [5]int{2, 20, 50, 7, 0}, "0/0 b5 b6", "0/0 b5 b6")
	checkSays(t, v, ask("net", 50, 3, 9, 0, false), [5]int{9, 20, 50, 50, 0}, "0/0 net>c c>t")
	checkSays(t, v, ask("nobody nobody nobody", 99, 3, 9, 0, false), [5]int{9, 20, 50, 99, 0}, "2/2", "2/2", "2/2")
	// Without its plan, and no question at all.
	checkSays(t, v, ask("leaf stray", 4, 3, 300, 0, false), [5]int{300, 20, 50, 4, 2})
	checkSays(t, v, ask("nobody", 98, 0, 0, 30, true), [5]int{0, 20, 50, 98, 2})
	checkSays(t, v, ask("leaf", 0, 3, 300, 0, false)[1:], [5]int{0, 20, 50, 0, 1})
	checkSays(t, v, "", [5]int{0, 20, 50, 0, 1})
	one := impl.Server{Store: v.Store, Plans: v.Plans[2:3], House: 1, Now: 20}
	checkSays(t, one, ask("leaf", 7, 1, 6, 0, false), [5]int{6, 20, 20, 7, 0}, "0/0 org>b b>leaf")
	checkSays(t, one, ask("leaf", 0, 1, 6, 0, false), [5]int{6, 20, 20, 0, 2})
	checkSays(t, impl.Server{}, ask("leaf", 0, 1, 6, 0, false), [5]int{6, 0, 0, 0, 2})
	checkSays(t, impl.Server{}, "x", [5]int{0, 0, 0, 0, 1})
}

// TestRepliesOfAllKinds: each row of one to three letters, by each plan, with each Want.
func TestRepliesOfAllKinds(t *testing.T) {
	v := someServer(t)
	allLists([]string{"leaf", "gone", "stray", "nobody"}, 3, func(names []string) {
		for i, plan := range []int{0, 3, 7, 8} {
			if len(names) > 0 {
				v.House = (len(names) + i) % impl.Secrets
				checkReplyFor(t, v, askOf(t, impl.Ask{Targets: targetsOf(t, strings.Join(names, " ")), Plan: plan, Want: i, Nonce: 5, Time: 20 * (i % 2), Cached: i == 2}))
			}
		}
	})
	for _, a := range rightAsks(t) {
		for plan := range 4 {
			checkReplyFor(t, v, askOf(t, changedAsk(a, func(a *impl.Ask) { a.Plan = plan })))
		}
	}
}

// noAsks: texts that are no question, though some are near to one.
func noAsks(t *testing.T) []string {
	t.Helper()
	text := generalAsk(t, "leaf")
	list := []string{"", "x", "\x00", "\x30\x00", text[1:], text[:len(text)-1], text + "\x00", text + text, turned(text, 0, 1), turned(text, 1, 1), targetOf(t, "leaf"), textByLibrary(t, replyByHand(t, someReply(t))), textOfSize(4000), textOfSize(4001), textOfSize(9000)}
	for _, change := range wrongChanges() {
		if a := changedAsk(someAsk(t), change); a.Time >= 0 && a.Plan >= 0 && a.Want >= 0 && a.Nonce >= 0 && max(a.Time, a.Plan, a.Want, a.Nonce) < 100000 {
			list = append(list, textByLibrary(t, askByHand(t, a)))
		}
	}
	return list
}

func TestTextsThatAreNoQuestion(t *testing.T) {
	v := someServer(t)
	v.Kept = []impl.Kept{{Ask: "x", Reply: "kept", Until: 9999}, {Ask: "", Reply: "kept", Until: 20}}
	for _, text := range noAsks(t) {
		checkNoAsk(t, text)
		checkSays(t, v, text, [5]int{0, 20, 50, 0, 1})
		if after, said := checkServe(t, v, text); !slices.Equal(after.Kept, v.Kept) || said == "kept" {
			t.Fatalf("Serve(.., %q) = %#v, %q", text, after, said)
		}
	}
}

// TestRepliesByEachHouse: signed by those that there are; without one the Sig is empty, and nothing is said.
func TestRepliesByEachHouse(t *testing.T) {
	text := generalAsk(t, "leaf")
	for _, house := range append(edgeNumbers(), 3, 4, 5) {
		v := changedServer(someServer(t), func(v *impl.Server) { v.House = house })
		right := house >= 0 && house < impl.Secrets
		checkServerOk(t, v, right)
		if right {
			checkSays(t, v, text, [5]int{0, 20, 50, 0, 0}, "0/0 root>a a>b b>leaf root3 root4 a2 b5 b6")
		} else if r := checkReplyFor(t, v, text); r.Sig != "" {
			t.Fatalf("house %d signs %x", house, r.Sig)
		}
		after, said := checkServe(t, v, text)
		if (said != "") != right || len(after.Kept) != map[bool]int{true: 1}[right] {
			t.Fatalf("house %d says %q, and keeps %#v", house, said, after.Kept)
		}
		checkServe(t, v, "x")
	}
}

// TestRepliesAtEachTime: Now and Fresh at their edges, and beyond; what can't be told in a reply has no text.
func TestRepliesAtEachTime(t *testing.T) {
	text, plain := generalAsk(t, "top"), askOf(t, impl.Ask{Targets: targetsOf(t, "top"), Time: 20, Nonce: 3})
	times := append(edgeNumbers(), 20, 19998, 19999, 20000)
	pairs := [][2]int{{9999, 9999}, {9999, 10000}, {10000, 9999}, {10000, 10000}, {19999, 0}, {20000, 0}, {20000, -1}, {1, 19998}, {1, 19999}, {math.MaxInt, math.MaxInt}, {math.MinInt, math.MinInt}, {math.MinInt, math.MaxInt}, {-1, 21}}
	for _, n := range times {
		pairs = append(pairs, [2]int{n, 0}, [2]int{0, n}, [2]int{n, 9999}, [2]int{9999, n}, [2]int{20, n})
	}
	for _, one := range pairs {
		now, fresh := one[0], one[1]
		v := changedServer(someServer(t), func(v *impl.Server) { v.Now, v.Fresh = now, fresh })
		r := checkReplyFor(t, v, plain)
		if r.Time != now || r.Next != now+fresh || toldAnswer(t, r.Answers[0]) != "0/0" {
			t.Fatalf("Now %d, Fresh %d: %#v", now, fresh, r)
		}
		can := now >= 0 && now <= 19999 && r.Next >= 0 && r.Next <= 19999
		for _, asked := range []string{plain, text, "x"} {
			after, said := checkServe(t, v, asked)
			if (said != "") != can || (len(after.Kept) == 1) != (can && asked == text) {
				t.Fatalf("Now %d, Fresh %d: said %q, Kept %#v", now, fresh, said, after.Kept)
			}
			if len(after.Kept) == 1 && after.Kept[0] != (impl.Kept{Ask: text, Reply: said, Until: now + fresh}) {
				t.Fatalf("Now %d, Fresh %d: Kept %#v", now, fresh, after.Kept)
			}
		}
	}
}

// sayByHand: the bytes of a reply, when it is right and not too long.
func sayByHand(t *testing.T, r impl.Reply) (string, bool) {
	t.Helper()
	if whole := textByLibrary(t, replyByHand(t, r)); replyRight(r) && len(whole) <= 4000 {
		return whole, true
	}
	return "", false
}

func serveByHand(t *testing.T, v impl.Server, text string) (impl.Server, string) {
	t.Helper()
	a, isAsk := askByLibrary(t, text)
	general := isAsk && a.Cached && a.Nonce == 0
	for _, k := range v.Kept {
		if general && k.Ask == text && k.Until >= v.Now {
			return v, k.Reply
		}
	}
	r := replyForByHand(t, v, text)
	said, can := sayByHand(t, r)
	if !can {
		r.Answers, r.Error = nil, 1
		said, _ = sayByHand(t, signedByHouse(t, v.House, r))
		return v, said
	}
	if general {
		others := slices.DeleteFunc(slices.Clone(v.Kept), func(k impl.Kept) bool { return k.Ask == text })
		v.Kept = append(others[max(0, len(others)-2):], impl.Kept{Ask: text, Reply: said, Until: r.Next})
	}
	return v, said
}

// checkServe: the server and what is said are held whole, against the chapter's words by hand, and against memory that is not their own.
func checkServe(t *testing.T, v impl.Server, text string) (impl.Server, string) {
	t.Helper()
	want, wantSaid := serveByHand(t, v, text)
	handed, untouched := guardedServer(v)
	first, said := impl.Serve(handed, text)
	second, again := impl.Serve(handed, text)
	if !sameServer(first, want) || said != wantSaid || !sameServer(second, want) || again != wantSaid {
		t.Fatalf("Serve(%#v, %q) = %#v, %q, then %#v, %q, want %#v, %q", v, text, first, said, second, again, want, wantSaid)
	}
	checkOwnServer(t, "Serve", first, handed, second, impl.Server{Kept: []impl.Kept{{Ask: text}}})
	checkOwnTexts(t, "Serve", []string{said}, slices.Concat(serverTexts(handed), serverTexts(first), serverTexts(second), []string{text, again}))
	spoilServer(first)
	if !sameServer(second, want) || !untouched() {
		t.Fatalf("Serve(%#v, %q) writes into them, or hands out one memory twice", v, text)
	}
	return second, said
}

// checkStep: what a step from v to want answers, held whole; v as it is, when it is refused.
func checkStep(t *testing.T, name string, v, want impl.Server, ok bool, step func(v impl.Server) (impl.Server, bool)) impl.Server {
	t.Helper()
	if !ok {
		want = v
	}
	handed, untouched := guardedServer(v)
	first, done := step(handed)
	second, again := step(handed)
	if done != ok || again != ok || !sameServer(first, want) || !sameServer(second, want) {
		t.Fatalf("%s of %#v = %#v %v, then %#v %v, want %#v %v", name, v, first, done, second, again, want, ok)
	}
	checkOwnServer(t, name, first, handed, second)
	spoilServer(first)
	if !sameServer(second, want) || !untouched() {
		t.Fatalf("%s of %#v writes into it, or hands out one memory twice", name, v)
	}
	return second
}

func checkLearn(t *testing.T, v impl.Server, c impl.Cert, want bool) impl.Server {
	t.Helper()
	more := changedServer(v, func(v *impl.Server) { v.Store.Certs, v.Kept = append(v.Store.Certs, c), nil })
	if byHand := storeRight(t, more.Store); byHand != want {
		t.Fatalf("%#v: the case is none, by hand it is %v", more.Store, byHand)
	}
	letter, untouched := guardedLetter(c)
	got := checkStep(t, "Learn", v, more, want, func(v impl.Server) (impl.Server, bool) { return impl.Learn(v, letter) })
	checkOwnServer(t, "Learn", got, impl.Server{Store: impl.Store{Certs: []impl.Cert{letter}}})
	if !untouched() || !sameLetter(letter, c) {
		t.Fatalf("Learn(.., %#v) writes into it", c)
	}
	return got
}

func checkLearnCrl(t *testing.T, v impl.Server, x impl.Crl, want bool) impl.Server {
	t.Helper()
	more := changedServer(v, func(v *impl.Server) { v.Store.Crls, v.Kept = append(v.Store.Crls, x), nil })
	if byHand := storeRight(t, more.Store); byHand != want {
		t.Fatalf("%#v: the case is none, by hand it is %v", more.Store, byHand)
	}
	list, untouched := guardedList(x)
	got := checkStep(t, "LearnCrl", v, more, want, func(v impl.Server) (impl.Server, bool) { return impl.LearnCrl(v, list) })
	checkOwnServer(t, "LearnCrl", got, impl.Server{Store: impl.Store{Crls: []impl.Crl{list}}})
	if !untouched() || !sameList(list, x) {
		t.Fatalf("LearnCrl(.., %#v) writes into it", x)
	}
	return got
}

func checkLater(t *testing.T, v impl.Server, n int, want bool) impl.Server {
	t.Helper()
	more := changedServer(v, func(v *impl.Server) { v.Now += n })
	return checkStep(t, fmt.Sprint("Later by ", n), v, more, want, func(v impl.Server) (impl.Server, bool) { return impl.Later(v, n) })
}

// checkKept: promise 17: what is Kept is what the server would say, at the time at which it was said; and there is not too much of it.
func checkKept(t *testing.T, v impl.Server) {
	t.Helper()
	asked := []string{}
	for _, k := range v.Kept {
		r := readReplyBack(t, k.Reply)
		then := changedServer(v, func(v *impl.Server) { v.Now, v.Kept = r.Time, nil })
		if want, can := sayByHand(t, replyForByHand(t, then, k.Ask)); !can || k.Reply != want || k.Until != r.Next || r.Time > v.Now {
			t.Fatalf("Kept %#v, a reply %#v, is not what it would say: %q", k, r, want)
		}
		asked = append(asked, k.Ask)
	}
	if len(v.Kept) > impl.MaxKept || !noTwoAlike(asked) {
		t.Fatalf("Kept: %q", asked)
	}
}

// TestServedTwice: what is Kept is said again, till it is Kept too long, or something is learnt.
func TestServedTwice(t *testing.T) {
	v, text := someServer(t), generalAsk(t, "leaf")
	kept, said := checkServe(t, v, text)
	if want := []impl.Kept{{Ask: text, Reply: said, Until: 50}}; !slices.Equal(kept.Kept, want) {
		t.Fatalf("Kept are %#v, want %#v", kept.Kept, want)
	}
	checkKept(t, kept)
	for _, n := range []int{0, 1, 29, 30} {
		after, again := checkServe(t, checkLater(t, kept, n, true), text)
		if again != said || !slices.Equal(after.Kept, kept.Kept) || after.Now != 20+n {
			t.Fatalf("%d later: said %q, Kept %#v", n, again, after.Kept)
		}
	}
	for _, n := range []int{31, 32, 60} {
		after, again := checkServe(t, checkLater(t, kept, n, true), text)
		if again == said || !slices.Equal(after.Kept, []impl.Kept{{Ask: text, Reply: again, Until: 50 + n}}) || readReplyBack(t, again).Time != 20+n {
			t.Fatalf("%d later: said %q, Kept %#v", n, again, after.Kept)
		}
		checkKept(t, after)
	}
	// What was learnt counts at once, whether it tells something of the letter or not.
	for _, c := range signedByName(t, link(60, "root>z"), link(61, "root>b")) {
		after := checkLearn(t, kept, c, true)
		if len(after.Kept) != 0 {
			t.Fatalf("Kept are %#v", after.Kept)
		}
		_, again := checkServe(t, checkLater(t, after, 1, true), text)
		if again == said || readReplyBack(t, again).Time != 21 {
			t.Fatalf("said is %q", again)
		}
	}
	fewer := changedServer(kept, func(v *impl.Server) { v.Store.Crls = v.Store.Crls[:7] })
	after := checkLearnCrl(t, fewer, listOfName(t, "b", 9, 500), true)
	served, again := checkServe(t, after, text)
	if len(after.Kept) != 0 || again == said || toldAnswer(t, readReplyBack(t, again).Answers[0]) != "0/0 root>a a>b b>leaf root3 root4 a2 b9" {
		t.Fatalf("Kept %#v, said %q", after.Kept, again)
	}
	checkKept(t, served)
	// What is refused is not learnt.
	for _, after := range []impl.Server{checkLearn(t, kept, kept.Store.Certs[0], false), checkLearnCrl(t, kept, listOfName(t, "b", 9), false), checkLater(t, kept, -1, false), checkLater(t, kept, 9980, false)} {
		if _, again := checkServe(t, after, text); again != said {
			t.Fatalf("said is %q, want %q", again, said)
		}
	}
}

// TestWhatIsNotKept: a question with a Nonce, or one that is not Cached, is neither answered from what is Kept, nor Kept.
func TestWhatIsNotKept(t *testing.T) {
	for _, cached := range []bool{false, true} {
		for _, nonce := range []int{0, 1, 128, 1000000000} {
			for _, until := range []int{19, 20, 9999} {
				for _, names := range []string{"leaf", "nobody", "gone leaf"} {
					for _, plan := range []int{0, 3, 4} {
						text := askOf(t, impl.Ask{Targets: targetsOf(t, names), Plan: plan, Nonce: nonce, Cached: cached, Want: 1})
						v := changedServer(someServer(t), func(v *impl.Server) { v.Kept = []impl.Kept{{Ask: text, Reply: "kept", Until: until}} })
						after, said := checkServe(t, v, text)
						general := cached && nonce == 0
						if (said == "kept") != (general && until >= 20) || slices.Equal(after.Kept, v.Kept) == (general && until < 20) {
							t.Fatalf("Cached %v, Nonce %d, Until %d: said %q, Kept %#v", cached, nonce, until, said, after.Kept)
						}
						after, said = checkServe(t, someServer(t), text)
						if (len(after.Kept) == 1) != general || said == "kept" {
							t.Fatalf("Cached %v, Nonce %d: said %q, Kept %#v", cached, nonce, said, after.Kept)
						}
					}
				}
			}
		}
	}
}

// TestKeptTooLong: Until at Now, below and above it, at each time.
func TestKeptTooLong(t *testing.T) {
	text := generalAsk(t, "top")
	for _, now := range append(edgeNumbers(), 20) {
		for _, until := range []int{now - 1, now, now + 1, 0, 20, -1, 9999, math.MaxInt, math.MinInt} {
			v := changedServer(someServer(t), func(v *impl.Server) { v.Now, v.Kept = now, []impl.Kept{{Ask: text, Reply: "kept", Until: until}} })
			if _, said := checkServe(t, v, text); (said == "kept") != (until >= now) {
				t.Fatalf("Now %d, Until %d: said %q", now, until, said)
			}
		}
	}
}

// TestKeptThatIsNoReply: what is Kept is said as it stands; and Kept by its whole text alone.
func TestKeptThatIsNoReply(t *testing.T) {
	text := generalAsk(t, "top")
	for _, reply := range []string{"", "kept", text, textOfSize(9000)} {
		v := changedServer(someServer(t), func(v *impl.Server) { v.Kept = []impl.Kept{{Ask: text, Reply: reply, Until: 20}} })
		if after, said := checkServe(t, v, text); said != reply || !slices.Equal(after.Kept, v.Kept) {
			t.Fatalf("said is %q, want %q", said, reply)
		}
		for _, other := range []string{"", text[1:], text[:len(text)-1], text + "\x00", turned(text, 40, 1), generalAsk(t, "leaf")} {
			v.Kept[0].Ask = other
			if after, said := checkServe(t, v, text); said == reply || len(after.Kept) != 2 || after.Kept[0] != v.Kept[0] {
				t.Fatalf("said is %q, Kept %#v", said, after.Kept)
			}
		}
	}
}

// TestHowMuchIsKept: the oldest go, and the one with the same text does, wherever it stands.
func TestHowMuchIsKept(t *testing.T) {
	v := someServer(t)
	names := strings.Fields("leaf gone old late top net")
	for i, name := range names {
		after, said := checkServe(t, v, generalAsk(t, name))
		want := append(slices.Clone(v.Kept), impl.Kept{Ask: generalAsk(t, name), Reply: said, Until: 50})
		if i >= impl.MaxKept {
			want = want[1:]
		}
		if !slices.Equal(after.Kept, want) {
			t.Fatalf("Kept are %#v, want %#v", after.Kept, want)
		}
		checkKept(t, after)
		v = after
	}
	// Each of the three once more, when it was Kept too long: it goes behind the others, which stay.
	v = checkLater(t, v, 31, true)
	for i, name := range names[3:] {
		after, said := checkServe(t, v, generalAsk(t, name))
		want := append(slices.Delete(slices.Clone(v.Kept), i, i+1), impl.Kept{Ask: generalAsk(t, name), Reply: said, Until: 81})
		if !slices.Equal(after.Kept, want) {
			t.Fatalf("Kept are %#v, want %#v", after.Kept, want)
		}
		checkKept(t, after)
	}
}

// TestAllRowsOfKept: none to four that are Kept, one text twice over among them: the first that is Kept not too long is said; else all with that text go, and of the others the oldest.
func TestAllRowsOfKept(t *testing.T) {
	v, text := someServer(t), generalAsk(t, "top")
	some := []impl.Kept{{Ask: text, Reply: "too old", Until: 19}, {Ask: text, Reply: "kept", Until: 20}, {Ask: text, Reply: "kept, too", Until: 21}, {Ask: "other", Reply: "other", Until: 20}, {Ask: "x", Reply: "another", Until: 0}}
	allLists(some, 4, func(list []impl.Kept) {
		v.Kept = list
		after, said := checkServe(t, v, text)
		if first := slices.IndexFunc(list, func(k impl.Kept) bool { return k.Ask == text && k.Until >= 20 }); first >= 0 {
			if said != list[first].Reply || !slices.Equal(after.Kept, list) {
				t.Fatalf("of %#v said %q, Kept %#v", list, said, after.Kept)
			}
			return
		}
		stays := []impl.Kept{}
		for _, k := range list {
			if k.Ask != text {
				stays = append(stays, k)
			}
		}
		for len(stays) > 2 {
			stays = stays[1:]
		}
		if last := len(after.Kept) - 1; last < 0 || !slices.Equal(after.Kept[:last], stays) || after.Kept[last] != (impl.Kept{Ask: text, Reply: said, Until: 50}) {
			t.Fatalf("of %#v said %q, Kept %#v", list, said, after.Kept)
		}
	})
	v.Kept = keptOf(500)
	if after, _ := checkServe(t, v, text); !slices.Equal(after.Kept[:2], v.Kept[498:]) || len(after.Kept) != 3 {
		t.Fatalf("Kept are %#v", after.Kept)
	}
	if after, _ := checkServe(t, v, "x"); len(after.Kept) != 500 {
		t.Fatalf("%d are Kept", len(after.Kept))
	}
}

// widened: the letter with so many bytes of names in its Denies, which none of these tests asks for.
func widened(c impl.Cert, size int) impl.Cert {
	c.Denies = nil
	for _, first := range []string{"v", "w", "x", "y"} {
		if n := min(size, 20); n > 0 {
			c.Denies = append(c.Denies, first+strings.Repeat("z", n-1))
			size -= n
		}
	}
	return c
}

// wideServer: one that has much to say of letters of d, with lists of as much as there may be.
func wideServer(t *testing.T) impl.Server {
	t.Helper()
	v := impl.Server{Store: impl.Store{Certs: links("root>a a>b b>c c>d"), Anchors: anchorsOf("root")}, Plans: []impl.Plan{{Id: 2, Anchors: []int{0}}}, House: 2, Now: 20, Fresh: 5}
	for i, c := range v.Store.Certs {
		c.Policies = []int{1, 2, 3, 4}
		v.Store.Certs[i] = widened(c, 80)
	}
	v.Store.Certs = signedByName(t, v.Store.Certs...)
	for i, issuer := range []string{"root", "a", "b", "c"} {
		v.Store.Crls = append(v.Store.Crls, signedListBy(t, houseOf(issuer), impl.Crl{Issuer: issuer, Num: 5000 + i, This: 10, Next: 90, Revs: revsFrom(9000, 8, 1)}))
	}
	return v
}

// wideAsk: for three letters of d, with so many bytes of names in all.
func wideAsk(t *testing.T, size int, nonce int, cached bool) string {
	t.Helper()
	a := impl.Ask{Plan: 2, Want: 3, Nonce: nonce, Cached: cached}
	for i := range 3 {
		part := min(size, 80)
		size -= part
		c := signedByName(t, widened(link(90+i, "d>e"), part))[0]
		a.Targets = append(a.Targets, textByLibrary(t, letterByHand(t, c)))
	}
	return askOf(t, a)
}

// checkWide: what is said when the reply would have so many bytes.
func checkWide(t *testing.T, v impl.Server, text string, nonce, whole int) {
	t.Helper()
	v.Kept = []impl.Kept{{Ask: text, Reply: "too old", Until: 19}, {Ask: "other", Reply: "kept", Until: 20}}
	after, said := checkServe(t, v, text)
	r := readReplyBack(t, said)
	if !impl.SigOk(impl.PublicAt(2), impl.ReplyBody(r), r.Sig) {
		t.Fatalf("a reply of %d bytes is told as %#v, which is not signed", whole, r)
	}
	kept := v.Kept
	if whole > 4000 {
		if want := (impl.Reply{Hash: impl.Digest(text), Nonce: nonce, Time: 20, Next: 25, Plan: 2, Error: impl.ErrForm, Sig: r.Sig}); !sameReply(r, want) {
			t.Fatalf("a reply of %d bytes is told as %#v, want %#v", whole, r, want)
		}
	} else {
		if r.Error != 0 || len(r.Answers) != 3 || len(said) != whole {
			t.Fatalf("a reply of %d bytes is told as %#v", whole, r)
		}
		if nonce == 0 {
			kept = []impl.Kept{v.Kept[1], {Ask: text, Reply: said, Until: 25}}
		}
	}
	if !slices.Equal(after.Kept, kept) {
		t.Fatalf("a reply of %d bytes: Kept %#v, want %#v", whole, after.Kept, kept)
	}
}

// TestRepliesThatHaveNoText: what is longer than a text may be is told without answers, with ErrForm, signed, and not Kept.
func TestRepliesThatHaveNoText(t *testing.T) {
	v := wideServer(t)
	checkServerOk(t, v, true)
	sizes, refused := map[int]int{}, 0
	for size := range 241 {
		for _, nonce := range []int{0, 700} {
			text := wideAsk(t, size, nonce, true)
			whole := len(textByLibrary(t, replyByHand(t, replyForByHand(t, v, text))))
			sizes[whole]++
			if whole < 3970 && size%20 > 0 {
				continue
			}
			if whole > 4000 {
				refused++
			}
			checkWide(t, v, text, nonce, whole)
		}
	}
	if refused < 20 || sizes[4000] == 0 || sizes[4001] == 0 || slices.Max(slices.Collect(maps.Keys(sizes))) < 4030 {
		t.Errorf("%d are refused; of these sizes: %v", refused, sizes)
	}
	// Without a house, or at a time that can't be told, not even that can be said.
	text := wideAsk(t, 240, 0, true)
	for _, change := range []func(v *impl.Server){func(v *impl.Server) { v.House = 6 }, func(v *impl.Server) { v.House = -1 }, func(v *impl.Server) { v.Fresh = 19980 }, func(v *impl.Server) { v.Fresh = -21 }} {
		if after, said := checkServe(t, changedServer(v, change), text); said != "" || len(after.Kept) != 0 {
			t.Fatalf("said is %q, Kept %#v", said, after.Kept)
		}
	}
}

func TestLearn(t *testing.T) {
	for count := range 5 {
		v := changedServer(someServer(t), func(v *impl.Server) { v.Kept = keptOf(count) })
		checkLearn(t, v, otherLetter(1), true)
		checkLearn(t, v, changed(v.Store.Certs[3], func(*impl.Cert) {}), false)
		checkLearn(t, v, changed(v.Store.Certs[3], func(c *impl.Cert) { c.Serial++ }), true)
		checkLearnCrl(t, v, otherList(1), false)
		v.Store.Crls = v.Store.Crls[:7]
		checkLearnCrl(t, v, otherList(1), true)
		checkLearnCrl(t, v, changedList(v.Store.Crls[3], func(*impl.Crl) {}), false)
		checkLearnCrl(t, v, changedList(v.Store.Crls[3], func(x *impl.Crl) { x.Num++ }), true)
		for i := range 9 {
			checkLearn(t, v, otherLetter(i), i < 9 && len(v.Store.Certs) < 12)
			if len(v.Store.Certs) < 12 {
				v.Store.Certs = append(v.Store.Certs, otherLetter(i))
			}
		}
		checkLearn(t, v, otherLetter(20), false)
	}
	v := changedServer(someServer(t), func(v *impl.Server) { v.Kept, v.Store.Crls = keptOf(3), v.Store.Crls[:3] })
	for _, c := range wrongLetters() {
		checkLearn(t, v, c, false)
	}
	for _, x := range wrongLists() {
		checkLearnCrl(t, v, x, false)
	}
	// Whether it holds, nobody asks of what is learnt.
	checkLearn(t, v, link(70, "nobody>x"), true)
	checkLearnCrl(t, v, changedList(otherList(1), func(x *impl.Crl) { x.This, x.Next = 9999, 0 }), true)
}

func TestLater(t *testing.T) {
	v := someServer(t)
	v.Kept = []impl.Kept{{Ask: "asked", Reply: "said", Until: 20}}
	for _, n := range []int{0, 1, 2, 500, 9978, 9979} {
		if after := checkLater(t, v, n, true); after.Now != 20+n {
			t.Fatalf("%d later it is %d", n, after.Now)
		}
	}
	for _, n := range []int{-1, -2, -20, -21, 9980, 9981, 10000, math.MaxInt, math.MaxInt - 20, math.MaxInt - 19, math.MinInt, math.MinInt + 1} {
		checkLater(t, v, n, false)
	}
	for _, now := range append(edgeNumbers(), 20, 5000) {
		for _, n := range append(edgeNumbers(), 20, 5000, 9999-max(now, 0), 10000-max(now, 0)) {
			// Halves of numbers, so that none of the sums runs over the range of int.
			then := float64(now)/2 + float64(n)/2
			checkLater(t, impl.Server{Now: now, Kept: keptOf(1)}, n, n >= 0 && then < 5000)
		}
	}
}

// wrongServers: each is not right, and answers all the same.
func wrongServers(t *testing.T) []impl.Server {
	t.Helper()
	list := []impl.Server{}
	for _, change := range []func(v *impl.Server){
		func(v *impl.Server) { v.House = -1 }, func(v *impl.Server) { v.House = 6 }, func(v *impl.Server) { v.Now = -1 }, func(v *impl.Server) { v.Now = 10000 }, func(v *impl.Server) { v.Now = 20000 }, func(v *impl.Server) { v.Fresh = -1 }, func(v *impl.Server) { v.Fresh = -21 }, func(v *impl.Server) { v.Fresh = 10000 }, func(v *impl.Server) { v.Fresh = math.MaxInt },
		func(v *impl.Server) { v.Kept = keptOf(4) }, func(v *impl.Server) { v.Kept = keptOf(9) },
		func(v *impl.Server) { v.Store.Certs = append(v.Store.Certs, v.Store.Certs[0]) }, func(v *impl.Server) { v.Store.Certs[0].Serial = -1 }, func(v *impl.Server) { v.Store.Crls[7] = v.Store.Crls[0] }, func(v *impl.Server) { v.Store.Crls[1].Num = 0 }, func(v *impl.Server) { v.Store.Certs = append(v.Store.Certs, manyOf(9, otherLetter)...) }, func(v *impl.Server) { v.Store.Crls = append(v.Store.Crls, otherList(1)) },
		// Anchors that no plan trusts are none of the store that is asked.
		func(v *impl.Server) { v.Store.Anchors[2].Name = "" }, func(v *impl.Server) { v.Store.Anchors = append(v.Store.Anchors, anchorOf("x"), anchorOf("y")) }, func(v *impl.Server) { v.Store.Anchors[1].Name = "root" }, func(v *impl.Server) { v.Store.Anchors[0].Key = "short" }, func(v *impl.Server) { v.Store.Anchors = v.Store.Anchors[:1] }, func(v *impl.Server) { v.Store.Anchors = nil },
		func(v *impl.Server) { slices.Reverse(v.Plans) }, func(v *impl.Server) { v.Plans[1].Id = 0 }, func(v *impl.Server) { v.Plans[0].Id = 3 }, func(v *impl.Server) { v.Plans[3].Id = 7 }, func(v *impl.Server) { v.Plans = append(v.Plans, v.Plans...) }, func(v *impl.Server) { v.Plans[4].Id = 100 },
		func(v *impl.Server) { v.Plans[0].Anchors = nil }, func(v *impl.Server) { v.Plans[0].Anchors = []int{0, 0} }, func(v *impl.Server) { v.Plans[0].Anchors = []int{1, 0} }, func(v *impl.Server) { v.Plans[0].Anchors = []int{-1, 3, 0, 9} }, func(v *impl.Server) { v.Plans[0].Anchors = []int{0, 1, 2, 3} },
		func(v *impl.Server) { v.Plans[0].Rules.Usage = 8 }, func(v *impl.Server) { v.Plans[0].Rules.Policies = []int{2, 1} }, func(v *impl.Server) { v.Plans[1].Rules.Usage = -1 },
	} {
		list = append(list, changedServer(someServer(t), change))
	}
	return list
}

func TestServersThatAreNotRight(t *testing.T) {
	texts := []string{"x", generalAsk(t, "leaf"), generalAsk(t, "top gone nobody")}
	for _, plan := range []int{0, 3, 7, 8, 50} {
		texts = append(texts, askOf(t, impl.Ask{Targets: targetsOf(t, "leaf gone net"), Plan: plan, Want: 3, Nonce: 1}), askOf(t, impl.Ask{Targets: targetsOf(t, "leaf top"), Plan: plan, Want: 2, Time: 35, Cached: true}))
	}
	told := map[string]int{}
	for _, v := range wrongServers(t) {
		checkServerOk(t, v, false)
		for _, text := range texts {
			for _, x := range checkReplyFor(t, v, text).Answers {
				told[fmt.Sprint(x.Status, x.Why)]++
			}
			checkServe(t, v, text)
		}
		for _, n := range []int{-1, 0, 1, 9979, 9980} {
			checkLater(t, v, n, n >= 0 && v.Now+n <= 9999)
		}
		learnable := changedServer(v, func(v *impl.Server) { v.Store.Certs = append(v.Store.Certs, otherLetter(50)) })
		checkLearn(t, v, otherLetter(50), storeRight(t, learnable.Store))
		checkLearn(t, v, impl.Cert{}, false)
		checkLearnCrl(t, v, otherList(50), false)
		if len(v.Store.Crls) == 8 {
			v = changedServer(v, func(v *impl.Server) { v.Store.Crls = v.Store.Crls[:2] })
			checkLearnCrl(t, v, otherList(50), storeRight(t, v.Store))
		}
	}
	if len(told) < 5 {
		t.Errorf("%v: too few of a kind", told)
	}
}

// TestQuestionsThatAreNotRight: AnswerFor answers them, too.
func TestQuestionsThatAreNotRight(t *testing.T) {
	v := someServer(t)
	for _, n := range edgeNumbers() {
		for _, a := range []impl.Ask{{Plan: n, Want: 3}, {Want: 3, Nonce: n}, {Want: 3, Time: n}, {Plan: 7, Want: 3, Time: n}} {
			checkAnswer(t, v, a, targetOf(t, "leaf"))
			checkAnswer(t, v, a, targetOf(t, "stray"))
		}
		if n >= 0 {
			checkAnswer(t, v, impl.Ask{Want: n}, targetOf(t, "leaf"))
		}
	}
	checkTold(t, v, impl.Ask{Want: 4}, "leaf", "0/0")
	checkTold(t, v, impl.Ask{Want: 3, Time: -1}, "leaf", "1/2")
	checkTold(t, v, impl.Ask{Want: 3, Time: 10000}, "leaf", "1/2")
	checkTold(t, v, impl.Ask{Want: 3, Time: 10000}, "stray", "1/1")
	// A letter that is too long for a question is one.
	c := signedByName(t, changed(fullLetter(), func(c *impl.Cert) { c.Issuer = "b" }))[0]
	checkAnswer(t, v, impl.Ask{Want: 3, Time: 9999}, textByLibrary(t, letterByHand(t, c)))
}

// drawnServer: a server that knows something of a, b, c and org.
func drawnServer(t *testing.T, source *rand.Rand) impl.Server {
	t.Helper()
	v := impl.Server{Plans: knownPlans(), House: source.Intn(impl.Secrets), Now: 15 + source.Intn(20), Fresh: []int{0, 5, 20}[source.Intn(3)]}
	v.Store = knownStore(t)
	v.Store.Certs = v.Store.Certs[:source.Intn(5)]
	v.Store.Crls = v.Store.Crls[:source.Intn(4)]
	return v
}

// drawnText: of few kinds, so that many are asked again.
func drawnText(t *testing.T, source *rand.Rand) string {
	t.Helper()
	names := []string{"leaf", "gone", "top leaf", "stray nobody"}[source.Intn(4)]
	a := impl.Ask{Targets: targetsOf(t, names), Plan: []int{3, 3, 3, 0, 7, 4}[source.Intn(6)], Want: 3, Cached: source.Intn(8) > 0}
	switch source.Intn(12) {
	case 0:
		a.Nonce = 1 + source.Intn(3)
	case 1:
		a.Time = 20
	case 2:
		return "no question"
	}
	return askOf(t, a)
}

// TestDrawnServers: promise 17: whatever was asked and learnt, it says what there is, and what it kept is what it would say.
func TestDrawnServers(t *testing.T) {
	source := rand.New(rand.NewSource(17))
	counts := map[string]int{}
	for range 40 {
		v := drawnServer(t, source)
		letters := signedByName(t, append(links("root>a a>b org>b net>c root>b"), link(40, "root>z"))...)
		lists := append(knownLists(t), changesOfName(t, "root", 3, 7, impl.Rev{Serial: 1, Reason: 2}), listOfName(t, "org", 4, 3))
		for range 25 {
			before := v
			switch source.Intn(16) {
			case 0:
				c := letters[source.Intn(len(letters))]
				more := changedStore(v.Store, func(s *impl.Store) { s.Certs = append(s.Certs, c) })
				v = checkLearn(t, v, c, storeRight(t, more))
			case 1:
				x := lists[source.Intn(len(lists))]
				more := changedStore(v.Store, func(s *impl.Store) { s.Crls = append(s.Crls, x) })
				v = checkLearnCrl(t, v, x, storeRight(t, more))
			case 2, 3:
				n := source.Intn(8)
				v = checkLater(t, v, n, true)
			default:
				text := drawnText(t, source)
				after, said := checkServe(t, v, text)
				a, isAsk := askByLibrary(t, text)
				fresh := slices.ContainsFunc(v.Kept, func(k impl.Kept) bool { return k.Ask == text && k.Until >= v.Now })
				if v = after; isAsk && a.Cached && a.Nonce == 0 && fresh {
					counts["from what is kept"]++
				} else if _, mayBe := sayByHand(t, replyForByHand(t, before, text)); mayBe {
					counts["worked out"]++
				}
				if len(before.Kept) == 3 && !slices.Equal(before.Kept, v.Kept) {
					counts["the oldest goes, or the same"]++
				}
				if said == "" {
					t.Fatalf("nothing is said of %q", text)
				}
			}
			if len(before.Kept) > 0 && len(v.Kept) == 0 {
				counts["forgotten"]++
			}
			checkKept(t, v)
			checkServerOk(t, v, true)
		}
	}
	for _, kind := range []string{"from what is kept", "worked out", "the oldest goes, or the same", "forgotten"} {
		if counts[kind] < 15 {
			t.Errorf("%v: too few", counts)
		}
	}
}

// TestServersFromOneMemory: lists and texts that lie in one memory are each handed out in one of their own.
func TestServersFromOneMemory(t *testing.T) {
	places, policies, text := []int{0, 1, 2}, []int{0, 1, 2}, generalAsk(t, "top")
	v := someServer(t)
	for i := range v.Plans {
		v.Plans[i].Anchors, v.Plans[i].Rules.Policies = places[:1+i%3], policies[:i%4]
	}
	for i := range v.Store.Certs {
		v.Store.Certs[i].Policies = policies[:i]
	}
	v.Store.Crls = v.Store.Crls[:7]
	v.Kept = []impl.Kept{{Ask: text, Reply: text, Until: 20}, {Ask: text[:9], Reply: text[5:], Until: 20}, {Ask: text[2:], Reply: text[2:], Until: 5}}
	want := clonedServer(v)
	for name, step := range map[string]func() impl.Server{
		"Serve":    func() impl.Server { w, _ := impl.Serve(v, text); return w },
		"Serve x":  func() impl.Server { w, _ := impl.Serve(v, "x"); return w },
		"Serve of": func() impl.Server { w, _ := impl.Serve(v, generalAsk(t, "leaf")); return w },
		"Learn":    func() impl.Server { w, _ := impl.Learn(v, otherLetter(1)); return w },
		"no Learn": func() impl.Server { w, _ := impl.Learn(v, v.Store.Certs[0]); return w },
		"LearnCrl": func() impl.Server { w, _ := impl.LearnCrl(v, otherList(1)); return w },
		"no Crl":   func() impl.Server { w, _ := impl.LearnCrl(v, v.Store.Crls[0]); return w },
		"Later":    func() impl.Server { w, _ := impl.Later(v, 1); return w },
		"no Later": func() impl.Server { w, _ := impl.Later(v, -1); return w },
	} {
		first, second := step(), step()
		kept := clonedServer(second)
		checkOwnServer(t, name, first, v, second, impl.Server{Kept: []impl.Kept{{Ask: text}}})
		spoilServer(first)
		if !sameServer(v, want) || !sameServer(second, kept) || !sameServer(step(), kept) {
			t.Fatalf("%s hands out what it keeps, or its argument", name)
		}
	}
}

// TestServersAtOnce: many may ask one server at once, and each is told the same.
func TestServersAtOnce(t *testing.T) {
	v, text := someServer(t), generalAsk(t, "leaf gone")
	want, wantSaid := checkServe(t, v, text)
	more := checkLearn(t, want, otherLetter(1), true)
	wrong := make([]int, 16)
	var all sync.WaitGroup
	for i := range wrong {
		all.Go(func() {
			for range 3 {
				first, said := impl.Serve(v, text)
				second, again := impl.Serve(want, text)
				third, learnt := impl.Learn(want, otherLetter(1))
				if !sameServer(first, want) || said != wantSaid || !sameServer(second, want) || again != wantSaid || !sameServer(third, more) || !learnt {
					wrong[i]++
				}
			}
		})
	}
	all.Wait()
	if slices.Max(wrong) > 0 {
		t.Errorf("%v: told otherwise", wrong)
	}
}

// TestUnkeptIsNotRemembered: no function keeps anything from one call to another.
func TestUnkeptIsNotRemembered(t *testing.T) {
	v, text := someServer(t), generalAsk(t, "leaf")
	_, first := checkServe(t, v, text)
	checkLearn(t, v, otherLetter(1), true)
	later := checkLater(t, v, 5, true)
	if _, said := checkServe(t, later, text); said == first {
		t.Errorf("a server that keeps nothing says what another one did")
	}
	if _, said := checkServe(t, v, text); said != first {
		t.Errorf("the same server says something else")
	}
}
