package tests

import (
	"math"
	"math/rand"
	"slices"
	"strings"
	"testing"

	"loop.example/g00394/impl"
)

// anchoredStore: a store with so many anchors, three of which may be right, and some letters and lists.
func anchoredStore(count int) impl.Store {
	s := impl.Store{Certs: []impl.Cert{someLetter(), bareLetter(), fullLetter()}, Crls: []impl.Crl{someList(), deltaList(), emptyList()}}
	s.Anchors = anchorsOf(strings.Fields("root a net.org d e f g")[:count]...)
	return clonedStore(s)
}

// somePlans: right ones for a store of three anchors, with and without wishes.
func somePlans() []impl.Plan {
	return []impl.Plan{
		{Id: 0, Anchors: []int{0}},
		{Id: 1, Anchors: []int{2}, Rules: impl.Rules{Policies: []int{1}, Explicit: true, Check: true}},
		{Id: 7, Anchors: []int{0, 2}, Rules: impl.Rules{Time: 50, Policies: []int{0}, Usage: 4}},
		{Id: 8, Anchors: []int{0, 1, 2}, Rules: impl.Rules{Policies: []int{96, 97, 98, 99}, Explicit: true, Check: true, Usage: 7}},
		{Id: 50, Anchors: []int{1}, Rules: impl.Rules{Check: true, Usage: 1}},
		{Id: 99, Anchors: []int{1, 2}, Rules: impl.Rules{Time: 9999, Policies: []int{0, 1, 2, 3}}},
	}
}

func clonedPlans(list []impl.Plan) []impl.Plan {
	own := slices.Clone(list)
	for i := range own {
		own[i].Anchors, own[i].Rules.Policies = slices.Clone(own[i].Anchors), slices.Clone(own[i].Rules.Policies)
	}
	return own
}

// changedPlans: the plans with one thing done to them, in memory of their own.
func changedPlans(list []impl.Plan, change func(list []impl.Plan)) []impl.Plan {
	own := clonedPlans(list)
	change(own)
	return own
}

func changedPlan(p impl.Plan, change func(p *impl.Plan)) impl.Plan {
	own := clonedPlans([]impl.Plan{p})
	change(&own[0])
	return own[0]
}

func sameRules(a, b impl.Rules) bool {
	return a.Time == b.Time && slices.Equal(a.Policies, b.Policies) && a.Explicit == b.Explicit && a.Check == b.Check && a.Usage == b.Usage
}

func samePlan(a, b impl.Plan) bool {
	return a.Id == b.Id && slices.Equal(a.Anchors, b.Anchors) && sameRules(a.Rules, b.Rules)
}

// ascendingByLibrary: in order, and no two alike.
func ascendingByLibrary(list []int) bool {
	return slices.Equal(slices.Compact(slices.Sorted(slices.Values(list))), list)
}

// plansRight: PlansOk by hand.
func plansRight(list []impl.Plan, anchors int) bool {
	ids := []int{}
	for _, p := range list {
		ids = append(ids, p.Id)
		outside := func(place int) bool { return place < 0 || place >= anchors }
		if len(p.Anchors) < 1 || len(p.Anchors) > 3 || !ascendingByLibrary(p.Anchors) || slices.ContainsFunc(p.Anchors, outside) {
			return false
		}
		if p.Id < 0 || p.Id >= 100 || p.Rules.Usage < 0 || p.Rules.Usage >= 8 || !policiesByLibrary(p.Rules.Policies) {
			return false
		}
	}
	return len(list) <= 6 && ascendingByLibrary(ids)
}

// guardedPlan: p with lists that have room behind them, and whether all of that is still as it was.
func guardedPlan(p impl.Plan) (impl.Plan, func() bool) {
	handed := p
	anchors, anchorsUntouched := guarded(p.Anchors)
	policies, policiesUntouched := guarded(p.Rules.Policies)
	handed.Anchors, handed.Rules.Policies = anchors, policies
	return handed, func() bool { return anchorsUntouched() && policiesUntouched() && samePlan(handed, p) }
}

func guardedPlans(list []impl.Plan) ([]impl.Plan, func() bool) {
	room, kept := []impl.Plan{}, []func() bool{}
	for _, p := range append(slices.Clone(list), somePlans()[:2]...) {
		handed, asItWas := guardedPlan(p)
		room, kept = append(room, handed), append(kept, asItWas)
	}
	before := slices.Clone(room)
	return room[:len(list)], func() bool {
		return slices.EqualFunc(room, before, samePlan) && !slices.ContainsFunc(kept, func(asItWas func() bool) bool { return !asItWas() })
	}
}

func checkPlans(t *testing.T, list []impl.Plan, s impl.Store, want bool) {
	t.Helper()
	if byHand := plansRight(list, len(s.Anchors)); byHand != want {
		t.Fatalf("%#v, %d anchors: the case is none, by hand it is %v", list, len(s.Anchors), byHand)
	}
	handed, untouched := guardedPlans(list)
	store, storeUntouched := guardedStore(s)
	if got := impl.PlansOk(handed, store); got != want || !untouched() || !storeUntouched() {
		t.Fatalf("PlansOk(%#v, with %d anchors) = %v, want %v; untouched: %v, %v", list, len(s.Anchors), got, want, untouched(), storeUntouched())
	}
}

// TestPlansOk: none to six of them, each row of neighbours, and each one alone.
func TestPlansOk(t *testing.T) {
	s := anchoredStore(3)
	checkPlans(t, nil, s, true)
	checkPlans(t, []impl.Plan{}, s, true)
	for to := range len(somePlans()) + 1 {
		for at := range to + 1 {
			checkPlans(t, somePlans()[at:to], s, true)
		}
	}
	for _, store := range []impl.Store{{}, {Anchors: []impl.Anchor{}}, anchoredStore(0)} {
		checkPlans(t, nil, store, true)
		for _, p := range somePlans() {
			checkPlans(t, []impl.Plan{p}, store, false)
		}
	}
	checkPlans(t, []impl.Plan{{}}, s, false)
	checkPlans(t, make([]impl.Plan, 6), s, false)
}

// plansFrom: so many right ones, with Ids from there on.
func plansFrom(id, count int) []impl.Plan {
	return manyOf(count, func(i int) impl.Plan { return impl.Plan{Id: id + i, Anchors: []int{i % 3}} })
}

func TestHowManyPlans(t *testing.T) {
	s := anchoredStore(3)
	for count := range 101 {
		for _, from := range []int{0, 1, 50, 94, 99} {
			checkPlans(t, plansFrom(from, count), s, count <= 6 && from+count <= 100)
		}
	}
	checkPlans(t, plansFrom(0, 3000), s, false)
	checkPlans(t, append(somePlans(), somePlans()...), s, false)
	checkPlans(t, append(slices.Delete(somePlans(), 5, 6), plansFrom(51, 2)...), s, false)
	checkPlans(t, append(slices.Delete(somePlans(), 5, 6), plansFrom(51, 1)...), s, true)
}

// withIds: plans that are right but for their Ids.
func withIds(ids []int) []impl.Plan {
	return manyOf(len(ids), func(i int) impl.Plan { return impl.Plan{Id: ids[i], Anchors: []int{i % 3}} })
}

func TestPlanIds(t *testing.T) {
	s := anchoredStore(3)
	for _, id := range append(edgeNumbers(), 3, 4, 5, 50) {
		checkPlans(t, withIds([]int{id}), s, id >= 0 && id <= 99)
		for at := range somePlans() {
			list := changedPlans(somePlans(), func(list []impl.Plan) { list[at].Id = id })
			checkPlans(t, list, s, plansRight(list, 3))
		}
	}
	allLists([]int{-1, 0, 1, 2, 98, 99, 100}, 4, func(list []int) {
		checkPlans(t, withIds(list), s, plansRight(withIds(list), 3))
	})
	for _, ids := range [][]int{{0, 99}, {0, 1, 2, 3, 4, 5}, {94, 95, 96, 97, 98, 99}, {0, 20, 40, 60, 80, 99}} {
		checkPlans(t, withIds(ids), s, true)
		for at := range ids {
			for other := range at {
				swapped, alike := slices.Clone(ids), slices.Clone(ids)
				swapped[at], swapped[other] = ids[other], ids[at]
				alike[at] = ids[other]
				checkPlans(t, withIds(swapped), s, false)
				checkPlans(t, withIds(alike), s, false)
			}
		}
	}
	// One Id twice is so, too, where the plans are the same otherwise, or are not.
	for _, p := range somePlans() {
		checkPlans(t, []impl.Plan{p, p}, s, false)
		checkPlans(t, []impl.Plan{p, changedPlan(p, func(p *impl.Plan) { p.Anchors, p.Rules = []int{1}, impl.Rules{Usage: 2} })}, s, false)
	}
}

// TestPlanAnchors: places of stores of none to three anchors, and of stores that are not right, which have more.
func TestPlanAnchors(t *testing.T) {
	for count := range 6 {
		s := anchoredStore(count)
		allLists([]int{-1, 0, 1, 2, 3, 4, 5}, 4, func(list []int) {
			p := impl.Plan{Id: 4, Anchors: list, Rules: impl.Rules{Usage: 4}}
			checkPlans(t, []impl.Plan{p}, s, plansRight([]impl.Plan{p}, count))
		})
		for _, place := range append(edgeNumbers(), -3, 3, 4, 5) {
			checkPlans(t, []impl.Plan{{Anchors: []int{place}}}, s, place >= 0 && place < count)
			if count > 1 {
				checkPlans(t, []impl.Plan{{Anchors: []int{0, place}}}, s, place > 0 && place < count)
				checkPlans(t, []impl.Plan{{Anchors: []int{place, count - 1}}}, s, place >= 0 && place < count-1)
			}
		}
	}
	s := anchoredStore(7)
	for count := range 8 {
		all := manyOf(count, func(i int) int { return i })
		checkPlans(t, []impl.Plan{{Anchors: all}}, s, count >= 1 && count <= 3)
		slices.Reverse(all)
		checkPlans(t, []impl.Plan{{Anchors: all}}, s, count == 1)
		checkPlans(t, []impl.Plan{{Anchors: make([]int, count)}}, s, count == 1)
	}
	checkPlans(t, []impl.Plan{{Anchors: []int{4, 5, 6}}}, s, true)
	checkPlans(t, []impl.Plan{{Anchors: []int{5, 6, 7}}}, s, false)
	checkPlans(t, []impl.Plan{{Anchors: make([]int, 5000)}}, s, false)
}

// TestPlanRules: they are held right as RulesOk does, but for their Time.
func TestPlanRules(t *testing.T) {
	s := anchoredStore(3)
	with := func(p impl.Plan, change func(r *impl.Rules)) []impl.Plan {
		return []impl.Plan{changedPlan(p, func(p *impl.Plan) { change(&p.Rules) })}
	}
	for _, p := range somePlans() {
		for _, n := range append(edgeNumbers(), 3, 4, 5, 50) {
			checkPlans(t, with(p, func(r *impl.Rules) { r.Time = n }), s, true)
			checkPlans(t, with(p, func(r *impl.Rules) { r.Usage = n }), s, n >= 0 && n <= 7)
			checkPlans(t, with(p, func(r *impl.Rules) { r.Usage, r.Time = n, 10000 }), s, n >= 0 && n <= 7)
			checkPlans(t, with(p, func(r *impl.Rules) { r.Policies = []int{n} }), s, n >= 0 && n <= 99)
			checkPlans(t, with(p, func(r *impl.Rules) { r.Policies, r.Time = []int{n}, -1 }), s, n >= 0 && n <= 99)
		}
		for flags := range 4 {
			checkPlans(t, with(p, func(r *impl.Rules) { r.Explicit, r.Check = flags&1 != 0, flags&2 != 0 }), s, true)
		}
	}
	allLists([]int{-1, 0, 1, 50, 99, 100}, 5, func(list []int) {
		checkPlans(t, []impl.Plan{{Anchors: []int{0}, Rules: impl.Rules{Policies: list}}}, s, policiesByLibrary(list))
	})
	for _, r := range rightRules() {
		checkPlans(t, []impl.Plan{{Anchors: []int{2}, Rules: r}}, s, true)
	}
}

// wrongPlanChanges: each makes a right plan wrong, whatever plans stand beside it.
func wrongPlanChanges() []func(p *impl.Plan) {
	return []func(p *impl.Plan){
		func(p *impl.Plan) { p.Id = -1 }, func(p *impl.Plan) { p.Id = 100 }, func(p *impl.Plan) { p.Id = math.MinInt }, func(p *impl.Plan) { p.Id = math.MaxInt },
		func(p *impl.Plan) { p.Anchors = nil }, func(p *impl.Plan) { p.Anchors = []int{} }, func(p *impl.Plan) { p.Anchors = []int{-1} }, func(p *impl.Plan) { p.Anchors = []int{3} }, func(p *impl.Plan) { p.Anchors = []int{math.MinInt} }, func(p *impl.Plan) { p.Anchors = []int{math.MaxInt} },
		func(p *impl.Plan) { p.Anchors = []int{1, 0} }, func(p *impl.Plan) { p.Anchors = []int{1, 1} }, func(p *impl.Plan) { p.Anchors = []int{0, 1, 3} }, func(p *impl.Plan) { p.Anchors = []int{-1, 0, 1} }, func(p *impl.Plan) { p.Anchors = []int{0, 2, 1} }, func(p *impl.Plan) { p.Anchors = []int{0, 1, 1} }, func(p *impl.Plan) { p.Anchors = []int{0, 1, 2, 3} },
		func(p *impl.Plan) { p.Rules.Usage = -1 }, func(p *impl.Plan) { p.Rules.Usage = 8 }, func(p *impl.Plan) { p.Rules.Policies = []int{-1} }, func(p *impl.Plan) { p.Rules.Policies = []int{1, 100} }, func(p *impl.Plan) { p.Rules.Policies = []int{2, 1} }, func(p *impl.Plan) { p.Rules.Policies = []int{2, 2} }, func(p *impl.Plan) { p.Rules.Policies = []int{1, 2, 3, 4, 5} },
	}
}

// TestPlansWithFaults: each fault at each place among right plans, alone and with another one: that doesn't make it good.
func TestPlansWithFaults(t *testing.T) {
	s := anchoredStore(3)
	for i, first := range wrongPlanChanges() {
		for at := range somePlans() {
			for count := at + 1; count <= 6; count++ {
				checkPlans(t, changedPlans(somePlans()[:count], func(list []impl.Plan) { first(&list[at]) }), s, false)
			}
			for _, second := range wrongPlanChanges()[i+1:] {
				for other := range somePlans() {
					checkPlans(t, changedPlans(somePlans(), func(list []impl.Plan) {
						first(&list[at])
						second(&list[other])
					}), s, false)
				}
			}
		}
	}
}

// TestPlansOfAnyStore: whether the store is right, nobody asks, only how many anchors it has.
func TestPlansOfAnyStore(t *testing.T) {
	for _, s := range append(wrongStores(), storesToTry()...) {
		for _, list := range [][]impl.Plan{nil, {{Anchors: []int{0}}}, {{Anchors: []int{1}}}, {{Anchors: []int{0, 1}}}, {{Anchors: []int{2}}}, {{Anchors: []int{3}}}, {{Anchors: []int{4}}}, somePlans()} {
			checkPlans(t, list, s, plansRight(list, len(s.Anchors)))
		}
	}
}

func TestDrawnPlans(t *testing.T) {
	source := rand.New(rand.NewSource(16))
	right, wrong := 0, 0
	for range 4000 {
		list, anchors := drawnPlans(source), source.Intn(4)
		ok := plansRight(list, anchors)
		checkPlans(t, list, anchoredStore(anchors), ok)
		if ok && len(list) > 0 {
			right++
		} else if !ok {
			wrong++
		}
	}
	if right < 300 || wrong < 1000 {
		t.Errorf("%d right, %d wrong: too few", right, wrong)
	}
}

// drawnPlans: right ones for a store of three anchors, most of the time.
func drawnPlans(source *rand.Rand) []impl.Plan {
	some := func(count, of int) []int {
		list := source.Perm(of)[:source.Intn(count+1)]
		slices.Sort(list)
		return list
	}
	list := []impl.Plan{}
	for _, id := range some(6, 100) {
		p := impl.Plan{Id: id, Anchors: append(some(2, 2), 2), Rules: impl.Rules{Time: source.Intn(10000), Policies: some(4, 100), Explicit: source.Intn(2) == 0, Check: source.Intn(2) == 0, Usage: source.Intn(8)}}
		if source.Intn(2) == 0 {
			p.Anchors = []int{source.Intn(2)}
		}
		if source.Intn(20) == 0 {
			wrongPlanChanges()[source.Intn(len(wrongPlanChanges()))](&p)
		}
		list = append(list, p)
	}
	return list
}

func checkPlanAt(t *testing.T, list []impl.Plan, id, want int) {
	t.Helper()
	byHand := -1
	for at := len(list) - 1; at >= 0; at-- {
		if list[at].Id == id {
			byHand = at
		}
	}
	if byHand != want {
		t.Fatalf("%#v, %d: the case is none, by hand it is %d", list, id, byHand)
	}
	handed, untouched := guardedPlans(list)
	if got := impl.PlanAt(handed, id); got != want || !untouched() {
		t.Fatalf("PlanAt(%#v, %d) = %d, want %d; untouched: %v", list, id, got, want, untouched())
	}
}

func TestPlanAt(t *testing.T) {
	checkPlanAt(t, nil, 0, -1)
	checkPlanAt(t, []impl.Plan{}, -1, -1)
	for count := range 7 {
		places := map[int]int{0: 0, 1: 1, 7: 2, 8: 3, 50: 4, 99: 5}
		for _, id := range append(edgeNumbers(), 3, 4, 5, 49, 50, 51) {
			if at, known := places[id]; known && at < count {
				checkPlanAt(t, somePlans()[:count], id, at)
			} else {
				checkPlanAt(t, somePlans()[:count], id, -1)
			}
		}
	}
	for id := range 100 {
		checkPlanAt(t, plansFrom(0, 100), id, id)
		checkPlanAt(t, append(plansFrom(50, 50), plansFrom(0, 100)...), id, (id+50)%100)
	}
}

// TestPlanAtOfPlansThatAreNotRight: the first one with the Id is it, in any order, right or not.
func TestPlanAtOfPlansThatAreNotRight(t *testing.T) {
	allLists([]int{-1, 0, 1, 99, 100}, 5, func(list []int) {
		for _, id := range []int{-1, 0, 1, 2, 99, 100} {
			checkPlanAt(t, withIds(list), id, slices.Index(list, id))
		}
	})
	for _, id := range edgeNumbers() {
		checkPlanAt(t, withIds([]int{id}), id, 0)
		checkPlanAt(t, withIds([]int{5, id, id, 5}), id, 1)
		checkPlanAt(t, withIds([]int{id, id, id}), 5, -1)
	}
	for _, change := range wrongPlanChanges() {
		for at, p := range somePlans() {
			list := changedPlans(somePlans(), func(list []impl.Plan) { change(&list[at]) })
			checkPlanAt(t, list, list[at].Id, at)
			if list[at].Id != p.Id {
				checkPlanAt(t, list, p.Id, -1)
			}
		}
	}
	long := slices.Repeat(somePlans(), 500)
	checkPlanAt(t, long, 99, 5)
	checkPlanAt(t, append(long, impl.Plan{Id: 33}), 33, 3000)
	checkPlanAt(t, long, 33, -1)
}

func rulesMemory(r impl.Rules) stretch { return memoryOf(r.Policies) }

// checkMerged: held whole, against memory that is not its own; and want is its Time.
func checkMerged(t *testing.T, p impl.Plan, a impl.Ask, now, time int) impl.Rules {
	t.Helper()
	want := impl.Rules{Time: time, Policies: slices.Clone(p.Rules.Policies), Explicit: p.Rules.Explicit, Check: p.Rules.Check, Usage: p.Rules.Usage}
	plan, planUntouched := guardedPlan(p)
	ask, askUntouched := guardedAsk(a)
	first := impl.Merged(plan, ask, now)
	second := impl.Merged(plan, ask, now)
	if !sameRules(first, want) || !sameRules(second, want) {
		t.Fatalf("Merged(%#v, %#v, %d) = %#v, %#v, want %#v", p, a, now, first, second, want)
	}
	for _, other := range []stretch{rulesMemory(plan.Rules), memoryOf(plan.Anchors), rulesMemory(second)} {
		if cap(first.Policies) > 0 && rulesMemory(first).meets(other) {
			t.Fatalf("Merged(%#v, %#v, %d): Policies share memory", p, a, now)
		}
	}
	spoil(first.Policies)
	if third := impl.Merged(plan, ask, now); !sameRules(second, want) || !sameRules(third, want) {
		t.Fatalf("Merged(%#v, %#v, %d) hands out what it keeps, or its argument", p, a, now)
	}
	if !planUntouched() || !askUntouched() || !sameAsk(ask, a) {
		t.Fatalf("Merged(%#v, %#v, %d) writes into them", p, a, now)
	}
	return second
}

// TestMerged: of each plan and each question, with a Time of its own, and of Time 0.
func TestMerged(t *testing.T) {
	for _, p := range append(somePlans(), impl.Plan{}) {
		for _, a := range append(rightAsks(t), impl.Ask{}) {
			for _, n := range append(edgeNumbers(), 20, 30, 50) {
				now := changedAsk(a, func(a *impl.Ask) { a.Time = 0 })
				checkMerged(t, p, now, n, n)
				then := changedAsk(a, func(a *impl.Ask) { a.Time = n })
				for _, m := range []int{0, 1, 20, 9999, -1, 10000, math.MinInt} {
					if n != 0 {
						checkMerged(t, p, then, m, n)
					} else {
						checkMerged(t, p, then, m, m)
					}
				}
			}
		}
	}
	// The plan's own Time is no matter, nor are its Id and Anchors.
	for _, n := range edgeNumbers() {
		p := changedPlan(somePlans()[3], func(p *impl.Plan) { p.Rules.Time, p.Id, p.Anchors = n, n, []int{n} })
		checkMerged(t, p, impl.Ask{Time: 30}, 20, 30)
		checkMerged(t, p, impl.Ask{}, 20, 20)
		checkMerged(t, p, impl.Ask{}, 0, 0)
	}
}

// TestMergedOfWhatIsNotRight: all is handed on as it stands.
func TestMergedOfWhatIsNotRight(t *testing.T) {
	for _, p := range somePlans() {
		for _, change := range wrongPlanChanges() {
			wrong := changedPlan(p, change)
			checkMerged(t, wrong, impl.Ask{Time: 30}, 20, 30)
			checkMerged(t, wrong, impl.Ask{}, 20, 20)
			for _, changeAsk := range wrongChanges() {
				a := changedAsk(someAsk(t), changeAsk)
				checkMerged(t, wrong, a, 77, a.Time)
				checkMerged(t, p, a, 77, a.Time)
				a.Time = 0
				checkMerged(t, wrong, a, 77, 77)
			}
		}
		for _, n := range edgeNumbers() {
			checkMerged(t, changedPlan(p, func(p *impl.Plan) { p.Rules.Usage = n }), someAsk(t), 5, 20)
		}
	}
	allLists([]int{-1, 0, 5, 100}, 4, func(list []int) {
		checkMerged(t, impl.Plan{Rules: impl.Rules{Policies: list}}, impl.Ask{}, 20, 20)
	})
	checkMerged(t, impl.Plan{Rules: impl.Rules{Policies: make([]int, 5000), Check: true}}, impl.Ask{Time: 1}, 20, 1)
}

// TestMergedRulesAreRight: of a right plan, and a time in its limits.
func TestMergedRulesAreRight(t *testing.T) {
	for _, p := range somePlans() {
		for _, n := range append(edgeNumbers(), 50) {
			right := n >= 0 && n <= 9999
			checkRules(t, checkMerged(t, p, impl.Ask{}, n, n), right)
			if n != 0 {
				checkRules(t, checkMerged(t, p, impl.Ask{Time: n}, 20, n), right)
			}
		}
	}
}

// checkTrusting: held whole, against memory that is not its own; trusted are the places that it should have.
func checkTrusting(t *testing.T, s impl.Store, p impl.Plan, trusted ...int) impl.Store {
	t.Helper()
	want := clonedStore(s)
	want.Anchors = nil
	for _, place := range trusted {
		want.Anchors = append(want.Anchors, s.Anchors[place])
	}
	store, storeUntouched := guardedStore(s)
	plan, planUntouched := guardedPlan(p)
	first, second := impl.Trusting(store, plan), impl.Trusting(store, plan)
	if !sameStore(first, want) || !sameStore(second, want) {
		t.Fatalf("Trusting(%#v, %#v) = %#v, %#v, want %#v", s, p, first, second, want)
	}
	checkOwnStore(t, "Trusting", first, store)
	checkOwnStore(t, "Trusting", first, second)
	for i := range first.Anchors {
		checkOwnAnchors(t, "Trusting", first.Anchors[:i:i], slices.Clone(first.Anchors[i:]))
	}
	spoilStore(first)
	if third := impl.Trusting(store, plan); !sameStore(second, want) || !sameStore(third, want) {
		t.Fatalf("Trusting(%#v, %#v) hands out what it keeps, or its argument", s, p)
	}
	if !storeUntouched() || !planUntouched() {
		t.Fatalf("Trusting(%#v, %#v) writes into them", s, p)
	}
	return second
}

func TestTrusting(t *testing.T) {
	s := anchoredStore(3)
	for _, one := range []struct{ anchors, trusted []int }{
		{[]int{0}, []int{0}}, {[]int{1}, []int{1}}, {[]int{2}, []int{2}}, {[]int{0, 1}, []int{0, 1}}, {[]int{0, 2}, []int{0, 2}}, {[]int{1, 2}, []int{1, 2}}, {[]int{0, 1, 2}, []int{0, 1, 2}},
		// Not right, but told all the same: none, in another order, one twice, and places that there are not.
		{nil, nil}, {[]int{}, nil}, {[]int{2, 0}, []int{2, 0}}, {[]int{2, 1, 0}, []int{2, 1, 0}}, {[]int{1, 1}, []int{1, 1}}, {[]int{0, 1, 2, 0}, []int{0, 1, 2, 0}},
		{[]int{-1}, nil}, {[]int{3}, nil}, {[]int{-1, 0}, []int{0}}, {[]int{2, 3}, []int{2}}, {[]int{-1, 1, 3}, []int{1}}, {[]int{3, -1, 2, 7, 0}, []int{2, 0}}, {[]int{math.MinInt, 0, math.MaxInt}, []int{0}},
	} {
		for _, p := range append(somePlans(), impl.Plan{Id: -1}) {
			p.Anchors = one.anchors
			checkTrusting(t, s, p, one.trusted...)
		}
	}
}

// TestTrustingOfAllPlaces: of stores of none to five anchors, right ones and others.
func TestTrustingOfAllPlaces(t *testing.T) {
	for count := range 6 {
		s := anchoredStore(count)
		s.Certs, s.Crls = s.Certs[:count%4], s.Crls[:3-count%4]
		allLists([]int{-1, 0, 1, 2, 3, 4, 5}, 3, func(list []int) {
			trusted := slices.DeleteFunc(slices.Clone(list), func(place int) bool { return place < 0 || place >= count })
			checkTrusting(t, s, impl.Plan{Anchors: list}, trusted...)
		})
		for _, place := range edgeNumbers() {
			if place < 0 || place >= count {
				checkTrusting(t, s, impl.Plan{Anchors: []int{place}})
			}
		}
	}
	long := make([]int, 500)
	checkTrusting(t, anchoredStore(1), impl.Plan{Anchors: long}, long...)
	checkTrusting(t, anchoredStore(0), impl.Plan{Anchors: long})
}

// TestTrustingOfAnyStore: letters and lists stay all, as many as there are, right or not.
func TestTrustingOfAnyStore(t *testing.T) {
	for _, s := range append(storesToTry(), wrongStores()...) {
		for at := range s.Anchors {
			checkTrusting(t, s, impl.Plan{Anchors: []int{at}}, at)
		}
		checkTrusting(t, s, impl.Plan{Anchors: []int{len(s.Anchors)}})
		checkTrusting(t, s, impl.Plan{Anchors: manyOf(len(s.Anchors), func(i int) int { return i })}, manyOf(len(s.Anchors), func(i int) int { return i })...)
	}
}

// TestTrustingTheRight: of a right plan and a right store there comes a right store.
func TestTrustingTheRight(t *testing.T) {
	for _, s := range []impl.Store{fullStore(), anchoredStore(3)} {
		for _, p := range somePlans() {
			checkStore(t, checkTrusting(t, s, p, p.Anchors...), true)
		}
	}
}

// TestTrustingFromOneMemory: lists and texts that lie in one memory are each handed out in one of their own.
func TestTrustingFromOneMemory(t *testing.T) {
	names, policies, revs := strings.Fields("h i j k"), []int{0, 1, 2, 3}, revsFrom(1, 6, 1)
	text := "root.net.org" + impl.PublicAt(0)
	s := impl.Store{Certs: links("root>a a>b b>c"), Anchors: []impl.Anchor{{Name: text[:4], Key: text[12:]}, {Name: text[5:12], Key: text[12:]}, {Name: text[9:12], Key: text[12:]}}}
	for i := range s.Certs {
		c := &s.Certs[i]
		c.Policies, c.Permits, c.Denies, c.Issuer = policies[:2+i], names[:i+1], names[i:], text[:4]
	}
	for i := range 3 {
		s.Crls = append(s.Crls, impl.Crl{Issuer: text[:4], Num: i + 1, Revs: revs[i : i+3], Sig: text[12:]})
	}
	want := clonedStore(s)
	for _, places := range [][]int{{0}, {0, 2}, {0, 1, 2}, {1, 1, 1}} {
		first := impl.Trusting(s, impl.Plan{Anchors: places})
		checkOwnStore(t, "Trusting", first, s)
		spoilStore(first)
		if !sameStore(s, want) {
			t.Fatalf("Trusting(%#v, %d) hands out its argument", s, places)
		}
		checkTrusting(t, s, impl.Plan{Anchors: places}, places...)
	}
}

// planTrial: a store in which each of the anchors has a way to t, by letters of its own.
func planTrial(t *testing.T) (impl.Store, impl.Cert) {
	t.Helper()
	find := newSearch(t, "root org net", "root>a org>b net>c a>d b>d c>d", "d>t", func(find *search) {
		find.s.Certs[0].To = 40              // a: till 40 alone
		find.s.Certs[1].Policies = []int{9}  // b: only of another kind
		find.s.Certs[2].Usage = impl.UseCert // c: may not call back
		find.target.Usage = impl.UseData | impl.UseCrl
	})
	for i, name := range strings.Fields("root a b d org net c") {
		find.s.Crls = append(find.s.Crls, listOfName(t, name, 1+i))
	}
	return find.s, find.target
}

// checkPlanned: the way that is found by a plan, for a question, begins at this anchor of the store; -1 and the code without one.
func checkPlanned(t *testing.T, p impl.Plan, a impl.Ask, now, anchor, code int) {
	t.Helper()
	s, target := planTrial(t)
	if !plansRight([]impl.Plan{p}, 3) || !storeRight(t, s) {
		t.Fatalf("%#v: the case is none", p)
	}
	w, why := impl.FindWay(impl.Trusting(s, p), target, impl.Merged(p, a, now))
	if why != code {
		t.Fatalf("%#v, %#v, %d: the code %d, want %d", p, a, now, why, code)
	}
	if code != 0 {
		if anchor != -1 || len(w.Path) != 0 {
			t.Fatalf("%#v, %#v, %d: %s", p, a, now, toldWays([]impl.Way{w}))
		}
		return
	}
	if len(w.Path) != 3 || w.Path[0].Issuer != s.Anchors[anchor].Name || p.Anchors[w.Anchor] != anchor {
		t.Fatalf("%#v, %#v, %d: %s, want one from anchor %d", p, a, now, toldWays([]impl.Way{w}), anchor)
	}
}

// TestWhatIsNotSaid: promise 16: who is trusted, what is wanted and, with Time 0, when, are as the plan tells, and now.
func TestWhatIsNotSaid(t *testing.T) {
	plan := func(anchors []int, r impl.Rules) impl.Plan { return impl.Plan{Id: 5, Anchors: anchors, Rules: r} }
	for _, ownTime := range []int{0, 20, 95, -1, 10000} {
		free, wishes := impl.Rules{Time: ownTime}, impl.Rules{Time: ownTime, Policies: []int{1}, Explicit: true, Usage: impl.UseCrl}
		checked, useless := impl.Rules{Time: ownTime, Check: true}, impl.Rules{Time: ownTime, Usage: impl.UseCert}
		none := impl.Rules{Time: ownTime, Policies: []int{2}}
		for place := range 3 {
			checkPlanned(t, plan([]int{place}, free), impl.Ask{}, 20, place, 0)
			checkPlanned(t, plan([]int{place}, free), impl.Ask{Time: 20}, 95, place, 0)
			checkPlanned(t, plan([]int{place}, free), impl.Ask{Time: 95}, 20, -1, impl.PcTime)
			checkPlanned(t, plan([]int{place}, free), impl.Ask{}, 95, -1, impl.PcTime)
			checkPlanned(t, plan([]int{place}, useless), impl.Ask{}, 20, -1, impl.PcUse)
			checkPlanned(t, plan([]int{place}, none), impl.Ask{}, 20, -1, impl.PcPolicy)
		}
		all := []int{0, 1, 2}
		checkPlanned(t, plan(all, free), impl.Ask{}, 20, 0, 0)
		checkPlanned(t, plan(all, free), impl.Ask{Time: 50}, 20, 1, 0)
		checkPlanned(t, plan(all, wishes), impl.Ask{Time: 50}, 20, 2, 0)
		checkPlanned(t, plan(all, checked), impl.Ask{Time: 50}, 20, 1, 0)
		checkPlanned(t, plan([]int{0, 2}, free), impl.Ask{}, 50, 2, 0)
		checkPlanned(t, plan([]int{0, 2}, checked), impl.Ask{}, 50, -1, impl.PcTime)
		checkPlanned(t, plan([]int{1, 2}, wishes), impl.Ask{}, 20, 2, 0)
		checkPlanned(t, plan([]int{1}, wishes), impl.Ask{}, 20, -1, impl.PcPolicy)
		checkPlanned(t, plan([]int{2}, checked), impl.Ask{}, 20, -1, impl.PcUse)
		checkPlanned(t, plan([]int{2}, wishes), impl.Ask{Time: 30}, 95, 2, 0)
	}
}

// TestNothingElseIsAsked: of the question nothing but its Time counts.
func TestNothingElseIsAsked(t *testing.T) {
	for _, p := range somePlans() {
		for _, a := range append(rightAsks(t), impl.Ask{Plan: p.Id, Want: 3, Cached: true}) {
			for _, time := range []int{0, 30} {
				a.Time = time
				if got := impl.Merged(p, a, 20); !sameRules(got, impl.Merged(p, impl.Ask{Time: time}, 20)) {
					t.Errorf("Merged(%#v, %#v, 20) = %#v", p, a, got)
				}
			}
		}
	}
}
