package tests

import (
	"fmt"
	"math"
	"math/rand"
	"slices"
	"strings"
	"testing"

	"loop.example/g00394/impl"
)

func TestPathConstants(t *testing.T) {
	got := []int{impl.MaxPath, impl.PcEmpty, impl.PcForm, impl.PcIssuer, impl.PcTime, impl.PcSig, impl.PcGone, impl.PcName, impl.PcPolicy, impl.PcCa, impl.PcLen, impl.PcUse, impl.PcTwice}
	if !slices.Equal(got, []int{5, 1, 2, 3, 4, 5, 6, 7, 8, 9, 10, 11, 12}) {
		t.Errorf("MaxPath and the codes are %d", got)
	}
}

// rulesRight: RulesOk by hand.
func rulesRight(r impl.Rules) bool {
	return r.Time >= 0 && r.Time < 10000 && r.Usage >= 0 && r.Usage < 8 && policiesByLibrary(r.Policies)
}

func checkRules(t *testing.T, r impl.Rules, want bool) {
	t.Helper()
	if byHand := rulesRight(r); byHand != want {
		t.Fatalf("%#v: the case is none, by hand it is %v", r, byHand)
	}
	handed, untouched := r, func() bool { return true }
	handed.Policies, untouched = guarded(r.Policies)
	if got := impl.RulesOk(handed); got != want || !untouched() {
		t.Fatalf("RulesOk(%#v) = %v, want %v; untouched: %v", r, got, want, untouched())
	}
}

// rightRules: of each kind, and each in the midst of its limits.
func rightRules() []impl.Rules {
	return []impl.Rules{{}, {Time: 9999, Policies: []int{96, 97, 98, 99}, Explicit: true, Check: true, Usage: 7}, {Time: 50, Policies: []int{0}, Usage: 4}, {Time: 1, Explicit: true}, {Time: 1, Check: true, Usage: 1}, {Policies: []int{0, 1, 2, 3}, Check: true}}
}

func TestRulesOk(t *testing.T) {
	if !impl.RulesOk(impl.Rules{}) || !impl.RulesOk(impl.Rules{Policies: []int{}}) {
		t.Error("rules that want nothing are not right")
	}
	for _, r := range rightRules() {
		checkRules(t, r, true)
		for _, n := range append(edgeNumbers(), 3, 4, 5, 50) {
			other := r
			other.Time = n
			checkRules(t, other, n >= 0 && n <= 9999)
			other = r
			other.Usage = n
			checkRules(t, other, n >= 0 && n <= 7)
			other = r
			other.Policies = []int{n}
			checkRules(t, other, n >= 0 && n <= 99)
		}
	}
	allLists([]int{-1, 0, 1, 50, 99, 100}, 5, func(list []int) {
		for _, r := range rightRules()[1:4] {
			r.Policies = list
			checkRules(t, r, policiesByLibrary(list))
		}
	})
}

// trial: a way, what it is held against, and who signs what: the houses of letters and lists, one list a letter.
type trial struct {
	a           impl.Anchor
	path        []impl.Cert
	crls        []impl.Crl
	rules       impl.Rules
	houses      []int
	listHouses  []int
	dropped     []bool
	afterwards  []func(w *trial)
	description string
}

// wayNames: each under the one ahead of it.
func wayNames() []string {
	return []string{"org", "a.org", "b.a.org", "c.b.a.org", "d.c.b.a.org", "e.d.c.b.a.org", "f.e.d.c.b.a.org"}
}

// newTrial: a way of so many letters that holds, each with as little as it must have, against rules that want something of each kind. It is not signed yet.
func newTrial(n int) *trial {
	w := &trial{a: impl.Anchor{Name: "root", Key: impl.PublicAt(0)}, rules: impl.Rules{Time: 50, Policies: []int{2, 9}, Explicit: true, Check: true, Usage: impl.UseData}}
	ahead := "root"
	for i, name := range wayNames()[:n] {
		c := impl.Cert{Serial: 10 + i, Issuer: ahead, Subject: name, From: 10, To: 90, Key: impl.PublicAt((i + 1) % impl.Secrets), Ca: true, PathLen: n - 2 - i, Usage: impl.UseCert | impl.UseCrl, Policies: []int{1, 2, 3}, Permits: []string{"net", "org"}, Denies: []string{"com"}}
		if i == n-1 {
			c.Ca, c.PathLen, c.Usage = false, 0, impl.UseData
		}
		w.path, w.houses = append(w.path, c), append(w.houses, i%impl.Secrets)
		w.crls = append(w.crls, impl.Crl{Issuer: ahead, Num: 5, This: 10, Next: 90, Revs: []impl.Rev{{Serial: 9, Reason: 1}, {Serial: 20, Reason: 1}}})
		w.listHouses, w.dropped = append(w.listHouses, i%impl.Secrets), append(w.dropped, false)
		ahead = name
	}
	return w
}

func textSignedBy(t *testing.T, house int, text string) string {
	t.Helper()
	if house < 0 {
		return strings.Repeat("\x00", impl.KeySize)
	}
	return signByLibrary(t, house, text)
}

// sign signs all of it as it stands, and does what is to be done afterwards.
func (w *trial) sign(t *testing.T) *trial {
	t.Helper()
	for i := range w.path {
		w.path[i].Sig = textSignedBy(t, w.houses[i], bodyTextByHand(t, w.path[i]))
	}
	kept := []impl.Crl{}
	for i, x := range w.crls {
		x.Sig = textSignedBy(t, w.listHouses[i], listBodyTextByHand(t, x))
		if !w.dropped[i] {
			kept = append(kept, x)
		}
	}
	w.crls = kept
	for _, do := range w.afterwards {
		do(w)
	}
	return w
}

func (w *trial) after(do func(w *trial)) { w.afterwards = append(w.afterwards, do) }

// addList: one more list, signed by this house.
func (w *trial) addList(x impl.Crl, house int) {
	w.crls, w.listHouses, w.dropped = append(w.crls, x), append(w.listHouses, house), append(w.dropped, false)
}

func staysByHand(path []impl.Cert) ([]int, bool) {
	list, any := []int{}, true
	for _, c := range path {
		list, any = joinByOne(list, any, c.Policies)
	}
	return list, any
}

// letterCodeByHand: what the chapter tells of the letter at i alone.
func letterCodeByHand(t *testing.T, w *trial, i int) int {
	t.Helper()
	c, r, last := w.path[i], w.rules, i == len(w.path)-1
	ahead := w.a
	if i > 0 {
		ahead = impl.Anchor{Name: w.path[i-1].Subject, Key: w.path[i-1].Key}
	}
	allowed := !slices.ContainsFunc(w.path[:i], func(one impl.Cert) bool { return !allowedByCuts(c.Subject, one.Permits, one.Denies) })
	stays, any := staysByHand(w.path[:i+1])
	wanted := len(r.Policies) == 0 || any || slices.ContainsFunc(stays, func(n int) bool { return slices.Contains(r.Policies, n) })
	status := 1
	if r.Check {
		status, _ = statusByHand(t, w.crls, c, ahead.Key, r.Time)
	}
	for _, one := range []struct {
		so   bool
		code int
	}{
		{c.Issuer != ahead.Name, 3}, {r.Time < c.From || r.Time > c.To, 4}, {!sigOkByLibrary(ahead.Key, bodyTextByHand(t, c), c.Sig), 5}, {status != 1, 6}, {!allowed, 7}, {r.Explicit && !any && len(stays) == 0, 8},
		{!last && !c.Ca, 9}, {!last && c.Usage%2 == 0, 11}, {!last && r.Check && c.Usage/2%2 == 0, 11}, {!last && len(w.path)-i-2 > c.PathLen, 10},
		{last && c.Usage|r.Usage != c.Usage, 11}, {last && !wanted, 8},
	} {
		if one.so {
			return one.code
		}
	}
	return 0
}

func codeByHand(t *testing.T, w *trial) int {
	t.Helper()
	if len(w.path) < 1 || len(w.path) > 5 {
		return 1
	}
	names := []string{w.a.Name}
	for _, c := range w.path {
		if !letterRight(c) {
			return 2
		}
		names = append(names, c.Subject)
	}
	if !rulesRight(w.rules) {
		return 2
	}
	if slices.Sort(names); len(slices.Compact(names)) <= len(w.path) {
		return 12
	}
	for i := range w.path {
		if code := letterCodeByHand(t, w, i); code != 0 {
			return code
		}
	}
	return 0
}

// guardedLetters: letters with room behind them, and behind the lists of each, and whether all of that is still as it was.
func guardedLetters(path []impl.Cert) ([]impl.Cert, func() bool) {
	room, kept := []impl.Cert{}, []func() bool{}
	for _, c := range append(slices.Clone(path), someLetter(), fullLetter()) {
		handed, asItWas := guardedLetter(c)
		room, kept = append(room, handed), append(kept, asItWas)
	}
	before := slices.Clone(room)
	return room[:len(path)], func() bool {
		return slices.EqualFunc(room, before, sameLetter) && !slices.ContainsFunc(kept, func(asItWas func() bool) bool { return !asItWas() })
	}
}

// checkCode: held against the chapter's words by hand, and against what the case tells.
func checkCode(t *testing.T, w *trial, want int) {
	t.Helper()
	if byHand := codeByHand(t, w); byHand != want {
		t.Fatalf("%s: %d letters %#v, rules %#v: the case is none, by hand it is %d, not %d", w.description, len(w.path), w.path, w.rules, byHand, want)
	}
	path, pathUntouched := guardedLetters(w.path)
	crls, crlsUntouched := guardedLists(w.crls)
	rules, rulesUntouched := w.rules, func() bool { return true }
	rules.Policies, rulesUntouched = guarded(w.rules.Policies)
	if got := impl.PathCode(w.a, path, crls, rules); got != want {
		t.Fatalf("%s: PathCode(%#v, %#v, %#v, %#v) = %d, want %d", w.description, w.a, w.path, w.crls, w.rules, got, want)
	}
	if !pathUntouched() || !crlsUntouched() || !rulesUntouched() {
		t.Fatalf("%s: PathCode(.., %#v, %#v, %#v) writes into them", w.description, w.path, w.crls, w.rules)
	}
}

// checkTrial: a way of n letters to which this was done, and then signed.
func checkTrial(t *testing.T, n, want int, do func(w *trial)) {
	t.Helper()
	w := newTrial(n)
	do(w)
	checkCode(t, w.sign(t), want)
}

// TestWaysThatHold: of each length, with and without each of what the rules may want.
func TestWaysThatHold(t *testing.T) {
	for n := 1; n <= impl.MaxPath; n++ {
		for wants := range 16 {
			checkTrial(t, n, 0, func(w *trial) {
				if wants&1 == 0 {
					w.rules.Policies = nil
				}
				if wants&4 == 0 {
					w.crls, w.listHouses, w.dropped = nil, nil, nil
				}
				if wants&8 == 0 {
					w.rules.Usage = 0
				}
				w.rules.Explicit, w.rules.Check = wants&2 != 0, wants&4 != 0
			})
		}
		checkTrial(t, n, 0, func(w *trial) { w.rules = impl.Rules{Time: 10} })
		checkTrial(t, n, 0, func(w *trial) { w.rules.Policies = []int{} })
		// Letters that may all, and want nothing.
		checkTrial(t, n, 0, func(w *trial) {
			for i := range w.path {
				w.path[i].Ca, w.path[i].PathLen, w.path[i].Usage, w.path[i].Policies, w.path[i].Permits, w.path[i].Denies = true, 99, 7, []int{0}, nil, nil
			}
		})
		// Lists in another order, and those of others between them.
		checkTrial(t, n, 0, func(w *trial) {
			w.addList(impl.Crl{Issuer: "com", Num: 9, This: 10, Next: 90, Revs: revsFrom(10, 5, 1)}, 0)
			w.addList(impl.Crl{Issuer: "root", Num: 9, This: 10, Next: 90, Revs: revsFrom(10, 5, 1)}, 5)
			w.addList(impl.Crl{Issuer: wayNames()[n-1], Num: 9, This: 10, Next: 90, Revs: revsFrom(10, 5, 1)}, n%impl.Secrets)
			w.after(func(w *trial) { slices.Reverse(w.crls) })
		})
	}
}

// deviation: one thing done to the letter at i, so that a code is so of it: which one, and where in the order of what is asked of one letter.
type deviation struct {
	name string
	code int
	rank int
	at   func(i, n int) bool
	do   func(w *trial, i int)
}

func anywhere(i, n int) bool      { return true }
func notTheFirst(i, n int) bool   { return i > 0 }
func notTheLast(i, n int) bool    { return i < n-1 }
func theLast(i, n int) bool       { return i == n-1 }
func othersBetween(i, n int) bool { return i < n-2 }

func (w *trial) deny(i int, name string) {
	w.path[i].Denies = slices.Compact(slices.Sorted(slices.Values(append(w.path[i].Denies, name))))
}

func deviations() []deviation {
	return slices.Concat(deviationsOfEach(), deviationsOfLists(), deviationsOfSome())
}

func deviationsOfEach() []deviation {
	return []deviation{
		{"of another", impl.PcIssuer, 0, anywhere, func(w *trial, i int) { w.path[i].Issuer = "com" }},
		{"of one under the one ahead", impl.PcIssuer, 0, anywhere, func(w *trial, i int) { w.path[i].Issuer = "x." + w.path[i].Issuer }},
		{"of itself", impl.PcIssuer, 0, anywhere, func(w *trial, i int) { w.path[i].Issuer = w.path[i].Subject }},
		{"of the anchor, not of the one ahead", impl.PcIssuer, 0, notTheFirst, func(w *trial, i int) { w.path[i].Issuer = "root" }},
		{"not yet", impl.PcTime, 1, anywhere, func(w *trial, i int) { w.path[i].From = w.rules.Time + 1 }},
		{"no more", impl.PcTime, 1, anywhere, func(w *trial, i int) { w.path[i].To = w.rules.Time - 1 }},
		{"signed by itself", impl.PcSig, 2, anywhere, func(w *trial, i int) { w.houses[i] = i + 1 }},
		{"signed by nobody", impl.PcSig, 2, anywhere, func(w *trial, i int) { w.houses[i] = -1 }},
		{"signed by the anchor, not by the one ahead", impl.PcSig, 2, notTheFirst, func(w *trial, i int) { w.houses[i] = 0 }},
		{"a spoilt Sig", impl.PcSig, 2, anywhere, func(w *trial, i int) {
			w.after(func(w *trial) { w.path[i].Sig = turned(w.path[i].Sig, 14-i, 1) })
		}},
		{"changed since", impl.PcSig, 2, anywhere, func(w *trial, i int) { w.after(func(w *trial) { w.path[i].Serial += 500 }) }},
		{"denied by the one ahead", impl.PcName, 4, notTheFirst, func(w *trial, i int) { w.deny(i-1, w.path[i].Subject) }},
		{"denied by the first one", impl.PcName, 4, notTheFirst, func(w *trial, i int) { w.deny(0, w.path[i].Subject) }},
		{"not permitted by the one ahead", impl.PcName, 4, notTheFirst, func(w *trial, i int) { w.path[i-1].Permits = []string{"com", "net"} }},
		{"tells no policy", impl.PcPolicy, 5, anywhere, func(w *trial, i int) { w.path[i].Policies = nil }},
		{"tells other policies", impl.PcPolicy, 5, notTheFirst, func(w *trial, i int) { w.path[i].Policies = []int{4, 9} }},
	}
}

func deviationsOfLists() []deviation {
	return []deviation{
		{"called back", impl.PcGone, 3, anywhere, func(w *trial, i int) {
			w.crls[i].Revs = []impl.Rev{{Serial: w.path[i].Serial, Reason: 1}}
		}},
		{"called back since", impl.PcGone, 3, anywhere, func(w *trial, i int) {
			w.addList(impl.Crl{Issuer: w.crls[i].Issuer, Num: 7, This: 10, Next: 90, Base: 5, Revs: []impl.Rev{{Serial: w.path[i].Serial, Reason: 10}}}, i)
		}},
		{"no list", impl.PcGone, 3, anywhere, func(w *trial, i int) { w.dropped[i] = true }},
		{"a list of changes alone", impl.PcGone, 3, anywhere, func(w *trial, i int) { w.crls[i].Base = 4 }},
		{"a list too late", impl.PcGone, 3, anywhere, func(w *trial, i int) { w.crls[i].Next = w.rules.Time - 1 }},
		{"a list too early", impl.PcGone, 3, anywhere, func(w *trial, i int) { w.crls[i].This = w.rules.Time + 1 }},
		{"a list of another", impl.PcGone, 3, anywhere, func(w *trial, i int) { w.crls[i].Issuer = "com" }},
		{"a list of the letter's own", impl.PcGone, 3, anywhere, func(w *trial, i int) { w.crls[i].Issuer, w.listHouses[i] = w.path[i].Subject, i+1 }},
		{"a list signed by the letter's own key", impl.PcGone, 3, anywhere, func(w *trial, i int) { w.listHouses[i] = i + 1 }},
		{"a list that is not right", impl.PcGone, 3, anywhere, func(w *trial, i int) { slices.Reverse(w.crls[i].Revs) }},
	}
}

func deviationsOfSome() []deviation {
	return []deviation{
		{"no Ca", impl.PcCa, 6, notTheLast, func(w *trial, i int) { w.path[i].Ca = false }},
		{"not to sign letters", impl.PcUse, 7, notTheLast, func(w *trial, i int) { w.path[i].Usage = impl.UseCrl | impl.UseData }},
		{"not to sign lists", impl.PcUse, 7, notTheLast, func(w *trial, i int) { w.path[i].Usage = impl.UseCert | impl.UseData }},
		{"of no use", impl.PcUse, 7, notTheLast, func(w *trial, i int) { w.path[i].Usage = 0 }},
		{"too many between", impl.PcLen, 8, othersBetween, func(w *trial, i int) { w.path[i].PathLen-- }},
		{"not of the use that is wanted", impl.PcUse, 6, theLast, func(w *trial, i int) { w.path[i].Usage = impl.UseCert | impl.UseCrl }},
		{"not of all uses that are wanted", impl.PcUse, 6, theLast, func(w *trial, i int) { w.rules.Usage = impl.UseData | impl.UseCrl }},
		{"not what is wanted stays", impl.PcPolicy, 7, theLast, func(w *trial, i int) { w.path[i].Policies = []int{1, 3} }},
		{"something else is wanted", impl.PcPolicy, 7, theLast, func(w *trial, i int) { w.rules.Policies = []int{0, 4, 99} }},
	}
}

// TestOneFault: each as the one fault of a way, at each letter at which it is one.
func TestOneFault(t *testing.T) {
	codes := map[int]int{}
	for n := 1; n <= impl.MaxPath; n++ {
		for i := range n {
			for _, d := range deviations() {
				if !d.at(i, n) {
					continue
				}
				checkTrial(t, n, d.code, func(w *trial) {
					w.description = fmt.Sprintf("%s, at %d of %d", d.name, i, n)
					d.do(w, i)
				})
				codes[d.code]++
			}
		}
	}
	if len(codes) != 9 {
		t.Errorf("codes %v: some are missing", codes)
	}
}

// TestTwoFaultsInOneLetter: what stands ahead in the order counts.
func TestTwoFaultsInOneLetter(t *testing.T) {
	for _, n := range []int{1, 3, 5} {
		for i := range n {
			for _, first := range deviations() {
				for _, second := range deviations() {
					if !first.at(i, n) || !second.at(i, n) || first.name == second.name {
						continue
					}
					checkTrial(t, n, map[bool]int{true: first.code, false: second.code}[first.rank <= second.rank], func(w *trial) {
						w.description = fmt.Sprintf("%s, and %s, at %d of %d", first.name, second.name, i, n)
						first.do(w, i)
						second.do(w, i)
					})
				}
			}
		}
	}
}

// TestTwoFaultsInTwoLetters: the letter that stands ahead counts, whatever is wrong with the other one.
func TestTwoFaultsInTwoLetters(t *testing.T) {
	const n = 4
	for _, first := range deviations() {
		for _, second := range deviations() {
			for i := range n {
				for j := i + 1; j < n; j++ {
					if !first.at(i, n) || !second.at(j, n) {
						continue
					}
					checkTrial(t, n, first.code, func(w *trial) {
						w.description = fmt.Sprintf("%s at %d, and %s at %d", first.name, i, second.name, j)
						second.do(w, j)
						first.do(w, i)
					})
				}
			}
		}
	}
}

// TestFaultsThatAreNone: what is asked of all but the last one is not asked of the last one, and the other way round; and what nobody wants is no fault.
func TestFaultsThatAreNone(t *testing.T) {
	for n := 1; n <= impl.MaxPath; n++ {
		last := n - 1
		for usage := range 8 {
			for wanted := range 8 {
				checkTrial(t, n, map[bool]int{true: 0, false: impl.PcUse}[usage&wanted == wanted], func(w *trial) {
					w.path[last].Ca, w.path[last].PathLen, w.path[last].Usage, w.rules.Usage = usage%2 == 0, usage, usage, wanted
				})
				for i := range last {
					for _, check := range []bool{false, true} {
						code := impl.PcUse
						if usage&impl.UseCert != 0 && (!check || usage&impl.UseCrl != 0) {
							code = 0
						}
						checkTrial(t, n, code, func(w *trial) {
							w.path[i].Usage, w.rules.Check, w.rules.Usage, w.path[last].Usage = usage, check, wanted, wanted
						})
					}
				}
			}
		}
		for i := range n {
			for _, d := range deviationsOfLists() {
				checkTrial(t, n, 0, func(w *trial) { d.do(w, i); w.rules.Check = false })
			}
			// Nothing stays, but nobody asks for it.
			checkTrial(t, n, 0, func(w *trial) { w.path[i].Policies = nil; w.rules.Explicit, w.rules.Policies = false, nil })
			checkTrial(t, n, impl.PcPolicy, func(w *trial) { w.path[i].Policies = nil; w.rules.Explicit = false })
			checkTrial(t, n, 0, func(w *trial) { w.path[i].Policies = []int{3}; w.rules.Policies = nil })
		}
	}
}

// TestLastPoliciesCountAtTheEnd: that what is wanted doesn't stay is told of the last letter alone, behind what is wrong with any one ahead of it.
func TestLastPoliciesCountAtTheEnd(t *testing.T) {
	for n := 2; n <= impl.MaxPath; n++ {
		for i := range n {
			for _, d := range deviations() {
				if !d.at(i, n) {
					continue
				}
				checkTrial(t, n, d.code, func(w *trial) {
					w.path[0].Policies = []int{1, 3}
					d.do(w, i)
				})
			}
		}
		checkTrial(t, n, impl.PcPolicy, func(w *trial) { w.path[0].Policies = []int{1, 3} })
	}
}

// TestPathTimes: Time at From and at To of each letter, and one below and above.
func TestPathTimes(t *testing.T) {
	for _, n := range []int{1, 2, 5} {
		for i := range n {
			for _, span := range [][2]int{{0, 9999}, {0, 0}, {9999, 9999}, {1, 9998}, {20, 80}, {50, 50}, {50, 51}, {49, 50}, {60, 40}, {51, 50}, {9999, 0}} {
				for _, time := range []int{0, 1, 2, 19, 20, 21, 40, 48, 49, 50, 51, 52, 60, 79, 80, 81, 9997, 9998, 9999} {
					checkTrial(t, n, map[bool]int{true: 0, false: impl.PcTime}[time >= span[0] && time <= span[1]], func(w *trial) {
						w.rules.Time = time
						for j := range w.path {
							w.path[j].From, w.path[j].To, w.crls[j].This, w.crls[j].Next = 0, 9999, 0, 9999
						}
						w.path[i].From, w.path[i].To = span[0], span[1]
					})
				}
			}
		}
	}
}

// TestPathListTimes: with Check, Time at This and at Next of each list, and one below and above.
func TestPathListTimes(t *testing.T) {
	for _, n := range []int{1, 3, 5} {
		for i := range n {
			for time := 17; time <= 33; time++ {
				for _, check := range []bool{false, true} {
					checkTrial(t, n, map[bool]int{true: 0, false: impl.PcGone}[!check || time >= 20 && time <= 30], func(w *trial) {
						w.rules.Time, w.rules.Check = time, check
						w.crls[i].This, w.crls[i].Next = 20, 30
					})
				}
			}
		}
	}
}

// TestPathLens: each PathLen of each letter, in ways of each length.
func TestPathLens(t *testing.T) {
	for n := 1; n <= impl.MaxPath; n++ {
		for i := range n {
			for _, most := range []int{0, 1, 2, 3, 4, 5, 98, 99} {
				between := n - 2 - i
				checkTrial(t, n, map[bool]int{true: impl.PcLen}[between > most], func(w *trial) { w.path[i].PathLen = most })
			}
		}
	}
	// The first one that has too many counts, not the one that has the most.
	checkTrial(t, 5, impl.PcTime, func(w *trial) { w.path[0].To, w.path[1].PathLen = 20, 0 })
	checkTrial(t, 5, impl.PcLen, func(w *trial) { w.path[0].PathLen, w.path[1].To = 2, 20 })
}

// TestHowManyLetters: none, MaxPath, and more; ahead of all else.
func TestHowManyLetters(t *testing.T) {
	checkTrial(t, impl.MaxPath, 0, func(w *trial) {})
	for _, n := range []int{0, impl.MaxPath + 1, impl.MaxPath + 2} {
		checkTrial(t, n, impl.PcEmpty, func(w *trial) {})
		checkTrial(t, n, impl.PcEmpty, func(w *trial) { w.rules.Time = -1 })
		checkTrial(t, n, impl.PcEmpty, func(w *trial) { w.rules = impl.Rules{Time: 95, Policies: []int{2, 1}, Usage: 8} })
		checkTrial(t, n, impl.PcEmpty, func(w *trial) { w.a = impl.Anchor{} })
	}
	for _, path := range [][]impl.Cert{nil, {}, make([]impl.Cert, 0, 9), make([]impl.Cert, 6), make([]impl.Cert, 1000), slices.Repeat([]impl.Cert{someLetter()}, 6)} {
		for _, r := range append(rightRules(), impl.Rules{Time: -1}) {
			checkCode(t, &trial{path: path, rules: r, a: impl.Anchor{Name: "ca.org"}}, impl.PcEmpty)
		}
	}
	checkTrial(t, 6, impl.PcEmpty, func(w *trial) { w.path[3].Subject = "root" })
	checkTrial(t, 6, impl.PcEmpty, func(w *trial) { w.path[5].Subject = w.path[4].Subject })
	checkTrial(t, 6, impl.PcEmpty, func(w *trial) { w.path[0].Usage = 9 })
}

// wrongTurns: what makes a letter one that is not right; it is signed as it stands.
func wrongTurns() []func(c *impl.Cert) {
	return []func(c *impl.Cert){
		func(c *impl.Cert) { c.Serial = -1 }, func(c *impl.Cert) { c.Serial = 10000 }, func(c *impl.Cert) { c.From = -1 }, func(c *impl.Cert) { c.To = 10000 }, func(c *impl.Cert) { c.From = math.MinInt },
		func(c *impl.Cert) { c.Key = c.Key[1:] }, func(c *impl.Cert) { c.Key += "\x00" }, func(c *impl.Cert) { c.Key = "" }, func(c *impl.Cert) { c.PathLen = 100 }, func(c *impl.Cert) { c.PathLen = -1 }, func(c *impl.Cert) { c.Usage = 15 }, func(c *impl.Cert) { c.Usage = -1 },
		func(c *impl.Cert) { c.Policies = []int{2, 1} }, func(c *impl.Cert) { c.Policies = []int{2, 2} }, func(c *impl.Cert) { c.Policies = []int{1, 2, 3, 4, 5} }, func(c *impl.Cert) { c.Policies = []int{2, 100} }, func(c *impl.Cert) { c.Policies = []int{-1, 2} },
		func(c *impl.Cert) { c.Permits = []string{"org", "org"} }, func(c *impl.Cert) { c.Permits = []string{"org", "net"} }, func(c *impl.Cert) { c.Permits = []string{"", "org"} }, func(c *impl.Cert) { c.Denies = []string{"com", "com"} }, func(c *impl.Cert) { c.Denies = []string{"h", "i", "j", "k", "l"} }, func(c *impl.Cert) { c.Denies = []string{"COM"} },
	}
}

// TestLettersThatAreNotRight: wherever it stands, and whatever is wrong ahead of it.
func TestLettersThatAreNotRight(t *testing.T) {
	for n := 1; n <= impl.MaxPath; n++ {
		for i := range n {
			for _, turn := range wrongTurns() {
				checkTrial(t, n, impl.PcForm, func(w *trial) { turn(&w.path[i]) })
			}
			for _, sig := range []string{"", "\x00", strings.Repeat("\x00", 14), strings.Repeat("\x00", 16)} {
				checkTrial(t, n, impl.PcForm, func(w *trial) { w.after(func(w *trial) { w.path[i].Sig = sig }) })
			}
			checkTrial(t, n, impl.PcForm, func(w *trial) { w.after(func(w *trial) { w.path[i].Sig += "\x00" }) })
			for _, name := range wrongNames() {
				checkTrial(t, n, impl.PcForm, func(w *trial) { w.path[i].Issuer = name })
				checkTrial(t, n, impl.PcForm, func(w *trial) { w.path[i].Subject = name })
			}
			checkTrial(t, n, impl.PcForm, func(w *trial) { w.path[i].Usage = 8; w.path[0].To = 1 })
			checkTrial(t, n, impl.PcForm, func(w *trial) { w.path[i].Usage = 8; w.path[n/2].Subject = "root" })
			checkTrial(t, n, impl.PcForm, func(w *trial) { w.path[i] = impl.Cert{}; w.after(func(w *trial) { w.path[i].Sig = "" }) })
		}
	}
}

// TestRulesThatAreNotRight: of ways that hold, and of those that don't.
func TestRulesThatAreNotRight(t *testing.T) {
	for _, turn := range []func(r *impl.Rules){
		func(r *impl.Rules) { r.Time = -1 }, func(r *impl.Rules) { r.Time = 10000 }, func(r *impl.Rules) { r.Time = math.MaxInt }, func(r *impl.Rules) { r.Time = math.MinInt }, func(r *impl.Rules) { r.Usage = -1 }, func(r *impl.Rules) { r.Usage = 8 }, func(r *impl.Rules) { r.Usage = 12 }, func(r *impl.Rules) { r.Usage = math.MinInt },
		func(r *impl.Rules) { r.Policies = []int{2, 1} }, func(r *impl.Rules) { r.Policies = []int{2, 2} }, func(r *impl.Rules) { r.Policies = []int{-1, 2} }, func(r *impl.Rules) { r.Policies = []int{2, 100} }, func(r *impl.Rules) { r.Policies = []int{1, 2, 3, 4, 5} },
	} {
		for n := 1; n <= impl.MaxPath; n++ {
			checkTrial(t, n, impl.PcForm, func(w *trial) { turn(&w.rules) })
			checkTrial(t, n, impl.PcForm, func(w *trial) { turn(&w.rules); w.rules.Check, w.rules.Explicit = false, false })
			checkTrial(t, n, impl.PcForm, func(w *trial) { turn(&w.rules); w.path[n-1].Subject = "root" })
			checkTrial(t, n, impl.PcForm, func(w *trial) { turn(&w.rules); w.path[0].Issuer, w.path[0].Ca = "com", false })
			checkTrial(t, n, impl.PcForm, func(w *trial) { turn(&w.rules); w.path[n-1].To = 1 })
		}
	}
	for n := 1; n <= impl.MaxPath; n++ {
		for _, r := range rightRules() {
			w := newTrial(n)
			w.rules = r
			w.sign(t)
			code := codeByHand(t, w)
			if code == impl.PcForm {
				t.Fatalf("%#v: the case is none", r)
			}
			checkCode(t, w, code)
		}
	}
}

// rename: the letter at i tells another Subject, and the one behind it, and its list, go along.
func (w *trial) rename(i int, name string) {
	w.path[i].Subject = name
	if i+1 < len(w.path) {
		w.path[i+1].Issuer, w.crls[i+1].Issuer = name, name
	}
}

// TestTwice: any two letters with one Subject, and the anchor's Name at each letter, in ways that else hold.
func TestTwice(t *testing.T) {
	for n := 1; n <= impl.MaxPath; n++ {
		for i := range n {
			checkTrial(t, n, impl.PcTwice, func(w *trial) {
				w.rename(i, "root")
				for j := range w.path {
					w.path[j].Permits = nil
				}
			})
			checkTrial(t, n, impl.PcTwice, func(w *trial) { w.rename(i, "root") })
			for j := range i {
				checkTrial(t, n, impl.PcTwice, func(w *trial) { w.rename(i, w.path[j].Subject) })
			}
			// Ahead of whatever is wrong with a letter.
			for _, d := range deviations() {
				if !d.at(i, n) {
					continue
				}
				checkTrial(t, n, impl.PcTwice, func(w *trial) { d.do(w, i); w.path[n-1].Subject = "root" })
				if n > 1 {
					checkTrial(t, n, impl.PcTwice, func(w *trial) { d.do(w, i); w.path[n-1].Subject = w.path[0].Subject })
				}
			}
		}
	}
	w := newTrial(1).sign(t)
	w.path = append(w.path, w.path[0])
	checkCode(t, w, impl.PcTwice)
	// A Subject that only looks like another one; a Serial or a Key that stands there twice.
	for _, name := range []string{"roo", "roots", "a.root", "rot", "or", "orgs", "a.orgs", "x.a.org", "b.a.or"} {
		checkTrial(t, 3, 0, func(w *trial) {
			w.rename(2, name)
			for j := range w.path {
				w.path[j].Permits = nil
			}
		})
	}
	checkTrial(t, 4, 0, func(w *trial) {
		for i := range w.path {
			w.path[i].Serial, w.path[i].Key, w.houses[i], w.listHouses[i] = 7, impl.PublicAt(0), 0, 0
		}
	})
}

// TestAnchors: another Name or another Key; whether an anchor is right, nobody asks.
func TestAnchors(t *testing.T) {
	for n := 1; n <= impl.MaxPath; n++ {
		for _, name := range append(wrongNames(), "roo", "roots", "com", "a.root", "ot") {
			checkTrial(t, n, impl.PcIssuer, func(w *trial) { w.a.Name = name })
		}
		for i := range n {
			checkTrial(t, n, impl.PcTwice, func(w *trial) { w.a.Name = w.path[i].Subject })
		}
		for _, key := range noKeys() {
			checkTrial(t, n, impl.PcSig, func(w *trial) { w.a.Key = key })
			checkTrial(t, n, impl.PcIssuer, func(w *trial) { w.a = impl.Anchor{Name: "com", Key: key} })
		}
		for house := range impl.Secrets {
			checkTrial(t, n, 0, func(w *trial) { w.a.Key, w.houses[0], w.listHouses[0] = impl.PublicAt(house), house, house })
		}
		checkTrial(t, n, 0, func(w *trial) { w.a.Name, w.path[0].Issuer, w.crls[0].Issuer = "ro.ot", "ro.ot", "ro.ot" })
	}
}

// TestKeysAhead: each letter is held against the key of the one ahead alone.
func TestKeysAhead(t *testing.T) {
	for n := 1; n <= impl.MaxPath; n++ {
		for i := range n {
			for house := range impl.Secrets {
				checkTrial(t, n, map[bool]int{true: 0, false: impl.PcSig}[house == i], func(w *trial) { w.houses[i] = house })
				checkTrial(t, n, map[bool]int{true: 0, false: impl.PcGone}[house == i], func(w *trial) { w.listHouses[i] = house })
				checkTrial(t, n, map[bool]int{true: impl.PcSig, false: 0}[house != i+1 && i < n-1], func(w *trial) { w.path[i].Key = impl.PublicAt(house) })
				// Another key throughout.
				checkTrial(t, n, 0, func(w *trial) {
					w.path[i].Key = impl.PublicAt(house)
					if i+1 < n {
						w.houses[i+1], w.listHouses[i+1] = house, house
					}
				})
			}
		}
	}
}

// TestSpoiltSigs: each byte of each Sig turned.
func TestSpoiltSigs(t *testing.T) {
	for _, n := range []int{1, 2, 5} {
		for i := range n {
			for at := range impl.KeySize {
				for _, bits := range []byte{1, 16, 128, 255} {
					checkTrial(t, n, impl.PcSig, func(w *trial) {
						w.after(func(w *trial) { w.path[i].Sig = turned(w.path[i].Sig, at, bits) })
					})
				}
			}
		}
	}
}

// TestChangedLetters: what is told otherwise than it was signed.
func TestChangedLetters(t *testing.T) {
	for _, turn := range []func(c *impl.Cert){
		func(c *impl.Cert) { c.Serial++ }, func(c *impl.Cert) { c.From-- }, func(c *impl.Cert) { c.To++ }, func(c *impl.Cert) { c.Ca = !c.Ca }, func(c *impl.Cert) { c.PathLen++ }, func(c *impl.Cert) { c.Usage = 7 }, func(c *impl.Cert) { c.Policies = []int{2, 3} }, func(c *impl.Cert) { c.Policies = append(slices.Clone(c.Policies), 4) },
		func(c *impl.Cert) { c.Permits = nil }, func(c *impl.Cert) { c.Permits, c.Denies = append([]string{"com"}, c.Permits...), nil }, func(c *impl.Cert) { c.Denies = nil }, func(c *impl.Cert) { c.Key = more(c.Key, 1) },
	} {
		for _, n := range []int{1, 3} {
			for i := range n {
				checkTrial(t, n, impl.PcSig, func(w *trial) { w.after(func(w *trial) { turn(&w.path[i]) }) })
			}
		}
	}
	// Of two with another Subject the one that tells it counts, not the one behind.
	checkTrial(t, 3, impl.PcSig, func(w *trial) { w.after(func(w *trial) { w.path[1].Subject = "x.org" }) })
}

// TestPathNames: what is permitted and denied by each one ahead, and by none else.
func TestPathNames(t *testing.T) {
	pool := [][]string{nil, {"org"}, {"a.org"}, {"b.a.org", "com"}}
	codes := map[int]int{}
	allLists([]int{0, 1, 2, 3}, 6, func(list []int) {
		if len(list) < 6 {
			return
		}
		w := newTrial(3)
		w.rules = impl.Rules{Time: 50}
		for i := range w.path {
			w.path[i].Permits, w.path[i].Denies = pool[list[i]], pool[list[3+i]]
		}
		code := codeByHand(t, w.sign(t))
		codes[code]++
		checkCode(t, w, code)
	})
	if len(codes) != 2 || codes[0] < 150 || codes[impl.PcName] < 500 {
		t.Errorf("codes %v: the cases are none", codes)
	}
}

// bound: in a way of three letters, what they permit and deny.
func bound(permits, denies [3][]string) func(w *trial) {
	return func(w *trial) {
		for i := range w.path {
			w.path[i].Permits, w.path[i].Denies = permits[i], denies[i]
		}
	}
}

func TestNamedPathNames(t *testing.T) {
	none := [3][]string{}
	checkTrial(t, 3, 0, bound(none, none))
	// A letter's own are not for itself: the first one may permit or deny what it will of its own name.
	checkTrial(t, 3, 0, bound([3][]string{{"a.org"}, {"b.a.org"}, {"com"}}, none))
	checkTrial(t, 3, 0, bound(none, [3][]string{{"x.org"}, {"c.a.org"}, {"b.a.org", "org"}}))
	checkTrial(t, 3, impl.PcName, bound([3][]string{{"com"}, nil, nil}, none))
	checkTrial(t, 3, impl.PcName, bound([3][]string{{"b.a.org"}, nil, nil}, none))
	checkTrial(t, 3, impl.PcName, bound([3][]string{nil, {"com", "net"}, nil}, none))
	checkTrial(t, 3, impl.PcName, bound([3][]string{nil, {"a.b.a.org"}, nil}, none))
	checkTrial(t, 3, impl.PcName, bound(none, [3][]string{{"org"}, nil, nil}))
	checkTrial(t, 3, impl.PcName, bound(none, [3][]string{{"b.a.org"}, nil, nil}))
	checkTrial(t, 3, impl.PcName, bound(none, [3][]string{nil, {"b.a.org"}, nil}))
	checkTrial(t, 3, impl.PcName, bound(none, [3][]string{nil, {"a.org"}, nil}))
	// The later one permits again what the first one does not.
	checkTrial(t, 3, impl.PcName, bound([3][]string{{"a.org", "com"}, {"b.a.org"}, nil}, [3][]string{{"b.a.org"}, nil, nil}))
	checkTrial(t, 3, 0, bound([3][]string{{"a.org", "com"}, {"b.a.org"}, nil}, [3][]string{{"com"}, {"com"}, nil}))
	// Permitted by one, and by the other something else.
	checkTrial(t, 3, impl.PcName, bound([3][]string{{"org"}, {"com"}, nil}, none))
	checkTrial(t, 3, impl.PcName, bound([3][]string{{"org"}, {"org"}, nil}, [3][]string{nil, {"org"}, nil}))
	// Of which letter it is so: behind what is wrong with those ahead, ahead of those behind.
	denied := bound(none, [3][]string{{"a.org"}, nil, nil})
	checkTrial(t, 3, impl.PcCa, func(w *trial) { denied(w); w.path[0].Ca = false })
	checkTrial(t, 3, impl.PcName, func(w *trial) { denied(w); w.path[1].Ca = false })
	checkTrial(t, 3, impl.PcName, func(w *trial) { denied(w); w.path[2].Issuer = "com" })
	deniedLast := bound(none, [3][]string{{"b.a.org"}, nil, nil})
	checkTrial(t, 3, impl.PcUse, func(w *trial) { deniedLast(w); w.path[1].Usage = 4 })
	checkTrial(t, 3, impl.PcName, func(w *trial) { deniedLast(w); w.path[2].Usage = 0 })
	checkTrial(t, 3, impl.PcTime, func(w *trial) { deniedLast(w); w.path[2].To = 1 })
}

// TestPathPolicies: what three letters tell, and what is wanted, of each kind.
func TestPathPolicies(t *testing.T) {
	pool := [][]int{nil, {0}, {1}, {2}, {1, 2}, {0, 1}}
	wishes := [][]int{nil, {0}, {1}, {2}, {1, 2}, {3}, {0, 3}}
	codes := map[int]int{}
	allLists(pool, 3, func(list [][]int) {
		if len(list) == 0 {
			return
		}
		w := newTrial(len(list))
		for i := range w.path {
			w.path[i].Policies = list[i]
		}
		w.sign(t)
		for _, wanted := range wishes {
			for _, explicit := range []bool{false, true} {
				w.rules = impl.Rules{Time: 50, Policies: wanted, Explicit: explicit}
				code := codeByHand(t, w)
				codes[code]++
				checkCode(t, w, code)
			}
		}
	})
	if len(codes) != 2 || codes[0] < 500 || codes[impl.PcPolicy] < 500 {
		t.Errorf("codes %v: the cases are none", codes)
	}
}

func TestNamedPathPolicies(t *testing.T) {
	cases := []struct {
		told            [][]int
		wanted          []int
		plain, explicit int
	}{
		{[][]int{{1}}, nil, 0, 0},
		{[][]int{{1}}, []int{1}, 0, 0},
		{[][]int{{1}}, []int{2}, impl.PcPolicy, impl.PcPolicy},
		{[][]int{{1}}, []int{0}, impl.PcPolicy, impl.PcPolicy},
		{[][]int{{1}}, []int{0, 1}, 0, 0},
		{[][]int{{0}}, []int{5}, 0, 0},
		{[][]int{{0}}, []int{0}, 0, 0},
		{[][]int{{0}}, nil, 0, 0},
		{[][]int{{0, 7}}, []int{5}, 0, 0},
		{[][]int{{}}, nil, 0, impl.PcPolicy},
		{[][]int{{}}, []int{1}, impl.PcPolicy, impl.PcPolicy},
		{[][]int{{1, 2}, {2, 3}}, nil, 0, 0},
		{[][]int{{1, 2}, {2, 3}}, []int{2}, 0, 0},
		{[][]int{{1, 2}, {2, 3}}, []int{1, 3}, impl.PcPolicy, impl.PcPolicy},
		{[][]int{{1, 2}, {2, 3}}, []int{1, 2, 3}, 0, 0},
		{[][]int{{1}, {2}}, nil, 0, impl.PcPolicy},
		{[][]int{{1}, {0}}, []int{1}, 0, 0},
		{[][]int{{1}, {0}}, []int{2}, impl.PcPolicy, impl.PcPolicy},
		{[][]int{{0}, {1}}, []int{1}, 0, 0},
		{[][]int{{0}, {0}}, []int{1}, 0, 0},
		{[][]int{{0}, {}}, nil, 0, impl.PcPolicy},
		{[][]int{{}, {0}}, nil, 0, impl.PcPolicy},
		{[][]int{{1}, {2}, {0}}, nil, 0, impl.PcPolicy},
		{[][]int{{1, 2}, {2, 3}, {1, 3}}, nil, 0, impl.PcPolicy},
		{[][]int{{96, 97, 98, 99}, {0}, {1, 2, 3, 99}, {0, 5}, {98, 99}}, []int{99}, 0, 0},
		{[][]int{{96, 97, 98, 99}, {0}, {1, 2, 3, 99}, {0, 5}, {98, 99}}, []int{96, 97, 98}, impl.PcPolicy, impl.PcPolicy},
		{[][]int{{0}, {0}, {0}, {0}, {0}}, []int{96, 97, 98, 99}, 0, 0},
	}
	for _, c := range cases {
		for _, explicit := range []bool{false, true} {
			checkTrial(t, len(c.told), map[bool]int{false: c.plain, true: c.explicit}[explicit], func(w *trial) {
				w.description = fmt.Sprint(c.told, c.wanted, explicit)
				for i := range w.path {
					w.path[i].Policies = c.told[i]
				}
				w.rules.Policies, w.rules.Explicit = c.wanted, explicit
			})
		}
	}
	// With Explicit the letter at which nothing stays any more counts; else the last one.
	for _, explicit := range []bool{false, true} {
		lost := func(w *trial) { w.path[1].Policies, w.rules.Explicit = []int{4}, explicit }
		early, late := impl.PcCa, impl.PcTime
		if explicit {
			early, late = impl.PcPolicy, impl.PcPolicy
		}
		checkTrial(t, 4, early, func(w *trial) { lost(w); w.path[1].Ca = false })
		checkTrial(t, 4, late, func(w *trial) { lost(w); w.path[2].To = 1 })
		checkTrial(t, 4, impl.PcGone, func(w *trial) { lost(w); w.dropped[1] = true })
		checkTrial(t, 4, impl.PcCa, func(w *trial) { lost(w); w.path[0].Ca = false })
		checkTrial(t, 4, map[bool]int{false: impl.PcUse, true: impl.PcPolicy}[explicit], func(w *trial) { lost(w); w.path[3].Usage = 0 })
	}
}

// TestPathLists: whole lists and changes of one issuer; what others tell is no matter.
func TestPathLists(t *testing.T) {
	for n := 1; n <= impl.MaxPath; n++ {
		for i := range n {
			of := func(w *trial, num, base, reason int) impl.Crl {
				x := impl.Crl{Issuer: w.crls[i].Issuer, Num: num, Base: base, This: 10, Next: 90}
				if reason > 0 {
					x.Revs = []impl.Rev{{Serial: w.path[i].Serial, Reason: reason}}
				}
				return x
			}
			for reason := 1; reason <= 10; reason++ {
				if reason != 8 {
					checkTrial(t, n, impl.PcGone, func(w *trial) { w.addList(of(w, 6, 0, reason), i) })
					checkTrial(t, n, 0, func(w *trial) { w.addList(of(w, 4, 0, reason), i) })
					checkTrial(t, n, 0, func(w *trial) { w.addList(of(w, 6, 0, reason), i); w.addList(of(w, 7, 6, 8), i) })
					checkTrial(t, n, 0, func(w *trial) { w.addList(of(w, 6, 0, reason), i); w.addList(of(w, 7, 0, 0), i) })
				}
				checkTrial(t, n, map[bool]int{false: impl.PcGone}[reason == 8], func(w *trial) { w.addList(of(w, 6, 5, reason), i) })
				checkTrial(t, n, 0, func(w *trial) { w.addList(of(w, 7, 6, reason), i) })
				checkTrial(t, n, 0, func(w *trial) { w.addList(of(w, 9, 5, reason), i+1) })
			}
			// The same Serial, called back by each of the others.
			checkTrial(t, n, 0, func(w *trial) {
				for j := range w.crls {
					if j != i {
						w.crls[j].Revs = []impl.Rev{{Serial: w.path[i].Serial, Reason: 1}}
					}
				}
			})
			// All with one Serial: the first one that is called back counts.
			checkTrial(t, n, impl.PcGone, func(w *trial) {
				for j := range w.path {
					w.path[j].Serial = 10
				}
				w.crls[i].Revs = revsFrom(3, 8, 2)
			})
		}
		checkTrial(t, n, impl.PcGone, func(w *trial) { w.after(func(w *trial) { w.crls = nil }) })
		checkTrial(t, n, impl.PcGone, func(w *trial) { w.after(func(w *trial) { w.crls = []impl.Crl{{}, {}} }) })
		checkTrial(t, n, 0, func(w *trial) { w.rules.Check = false; w.after(func(w *trial) { w.crls = []impl.Crl{{}, someList()} }) })
	}
}

// drawnTrial: a way with much that is drawn, and some of what may be wrong with it.
func drawnTrial(t *testing.T, source *rand.Rand) *trial {
	t.Helper()
	n := 1 + source.Intn(impl.MaxPath)
	w := newTrial(n)
	one := func(lists ...[]int) []int { return lists[source.Intn(len(lists))] }
	w.rules = impl.Rules{Time: 20 + source.Intn(50), Policies: one(nil, nil, []int{1}, []int{2, 3}, []int{0, 9}), Explicit: source.Intn(2) == 0, Check: source.Intn(2) == 0, Usage: one([]int{0}, []int{4}, []int{source.Intn(8)})[0]}
	for i := range w.path {
		c := &w.path[i]
		c.Serial, c.From, c.To = source.Intn(30), source.Intn(22), 68+source.Intn(9000)
		c.Policies = one([]int{0}, []int{0, 4}, []int{1, 2, 3}, []int{1, 2, 3, 9}, []int{1, 2})
		if source.Intn(3) > 0 {
			c.Usage, c.PathLen, c.Ca = 7, source.Intn(100), i < n-1 || source.Intn(2) == 0
		}
		if source.Intn(3) == 0 {
			c.Permits = [][]string{nil, {"org"}, {"a.org", "com"}, {"b.a.org", "c"}}[source.Intn(4)]
		}
	}
	all := deviations()
	for range max(0, source.Intn(4)-1) {
		i, d := source.Intn(n), all[source.Intn(len(all))]
		if d.at(i, n) {
			d.do(w, i)
		}
	}
	if source.Intn(12) == 0 {
		wrongTurns()[source.Intn(len(wrongTurns()))](&w.path[source.Intn(n)])
	}
	if source.Intn(12) == 0 {
		w.rename(source.Intn(n), []string{"root", "org", "a.org"}[source.Intn(3)])
	}
	return w.sign(t)
}

// TestDrawnWays: promise 12 over drawn ways: one holds just when each letter of it does.
func TestDrawnWays(t *testing.T) {
	source := rand.New(rand.NewSource(12))
	codes := map[int]int{}
	for range 4000 {
		w := drawnTrial(t, source)
		code := codeByHand(t, w)
		codes[code]++
		checkCode(t, w, code)
		if code == 0 {
			checkPartsHold(t, w)
		}
	}
	for code := range 13 {
		if codes[code] < 20 && code != impl.PcEmpty {
			t.Errorf("codes %v: too few are %d", codes, code)
		}
	}
	if codes[0] < 800 {
		t.Errorf("codes %v: too few hold", codes)
	}
}

// checkPartsHold: of a way that holds, what is behind a letter holds from that letter on; and what is ahead of one holds, too, when nothing is wanted of its last one.
func checkPartsHold(t *testing.T, w *trial) {
	t.Helper()
	for i := 1; i < len(w.path); i++ {
		behind := &trial{a: impl.Anchor{Name: w.path[i-1].Subject, Key: w.path[i-1].Key}, path: w.path[i:], crls: w.crls, rules: w.rules}
		checkCode(t, behind, 0)
		ahead := &trial{a: w.a, path: w.path[:i], crls: w.crls, rules: w.rules}
		ahead.rules.Policies, ahead.rules.Usage = nil, 0
		checkCode(t, ahead, 0)
	}
}

func checkStays(t *testing.T, path []impl.Cert, want []int, wantAny bool) {
	t.Helper()
	if byHand, any := staysByHand(path); !slices.Equal(byHand, want) || any != wantAny {
		t.Fatalf("%#v: the case is none, by hand it is %d, %v", path, byHand, any)
	}
	handed, untouched := guardedLetters(path)
	got, any := impl.StaysOf(handed)
	if !slices.Equal(got, want) || any != wantAny {
		t.Fatalf("StaysOf(%#v) = %d, %v, want %d, %v", path, got, any, want, wantAny)
	}
	for _, c := range handed {
		if cap(got) > 0 && memoryOf(got).meets(memoryOf(c.Policies)) {
			t.Fatalf("StaysOf(%#v) hands out a list of a letter", path)
		}
	}
	again, _ := impl.StaysOf(handed)
	spoil(got)
	if !untouched() || !slices.Equal(again, want) {
		t.Fatalf("StaysOf(%#v) writes to a letter, or hands out what it keeps", path)
	}
}

// lettersTelling: letters of which nothing but their Policies is asked.
func lettersTelling(policies ...[]int) []impl.Cert {
	path := []impl.Cert{}
	for i, list := range policies {
		path = append(path, []impl.Cert{{Policies: list}, changed(someLetter(), func(c *impl.Cert) { c.Policies = list })}[i%2])
	}
	return path
}

func TestStaysOf(t *testing.T) {
	if list, any := impl.StaysOf(nil); len(list) != 0 || !any {
		t.Errorf("StaysOf(nil) = %d, %v", list, any)
	}
	for _, c := range []struct {
		told    [][]int
		want    []int
		wantAny bool
	}{
		{nil, nil, true},
		{[][]int{{0}}, nil, true},
		{[][]int{{0, 5}}, nil, true},
		{[][]int{{}}, nil, false},
		{[][]int{{1, 2}}, []int{1, 2}, false},
		{[][]int{{0}, {0}, {0, 1}}, nil, true},
		{[][]int{{0}, {1, 2}}, []int{1, 2}, false},
		{[][]int{{1, 2}, {0}}, []int{1, 2}, false},
		{[][]int{{1, 2}, {2, 3}}, []int{2}, false},
		{[][]int{{1, 2}, {3}}, nil, false},
		{[][]int{{1, 2}, {3}, {0}}, nil, false},
		{[][]int{{1, 2}, {3}, {3}}, nil, false},
		{[][]int{{0}, {}, {0}}, nil, false},
		{[][]int{{1, 2, 3, 4}, {0, 9}, {2, 3, 4}, {0}, {3, 4, 5}}, []int{3, 4}, false},
		{[][]int{{99}, {0}, {98, 99}}, []int{99}, false},
		// Lists that no right letter has.
		{[][]int{{3, 1, 2}}, []int{1, 2, 3}, false},
		{[][]int{{3, 3, 1}, {3, 1, 3}}, []int{1, 3}, false},
		{[][]int{{5, 0}, {-7, 100, 9, 9}}, []int{-7, 9, 100}, false},
		{[][]int{{9, 8, 7, 6, 5, 4, 3}, {8, 6, 4, 2, 0}, {3, 5, 7}}, []int{3, 5, 7}, false},
		{[][]int{{math.MaxInt, math.MinInt}, {math.MinInt, 1}}, []int{math.MinInt}, false},
	} {
		checkStays(t, lettersTelling(c.told...), c.want, c.wantAny)
	}
	long := slices.Repeat([][]int{{1, 2, 3}, {0}}, 300)
	checkStays(t, lettersTelling(long...), []int{1, 2, 3}, false)
	checkStays(t, lettersTelling(append(long, []int{3})...), []int{3}, false)
	checkStays(t, lettersTelling(slices.Repeat([][]int{{0, 1}}, 600)...), nil, true)
}

// TestStaysOfAllShortWays: what stays is what each letter without AnyPolicy tells; any stays just when there is none such.
func TestStaysOfAllShortWays(t *testing.T) {
	allLists([][]int{nil, {0}, {1}, {2, 3}, {1, 2, 3}, {0, 2}}, 4, func(told [][]int) {
		want, wantAny := []int{}, !slices.ContainsFunc(told, func(list []int) bool { return !slices.Contains(list, 0) })
		for rule := 1; rule < 4 && !wantAny; rule++ {
			if !slices.ContainsFunc(told, func(list []int) bool { return !slices.Contains(list, 0) && !slices.Contains(list, rule) }) {
				want = append(want, rule)
			}
		}
		checkStays(t, lettersTelling(told...), want, wantAny)
	})
}

func checkPathText(t *testing.T, path []impl.Cert) string {
	t.Helper()
	want := ""
	for _, c := range path {
		if letterRight(c) {
			want += textByLibrary(t, letterByHand(t, c))
		}
	}
	handed, untouched := guardedLetters(path)
	got := impl.PathText(handed)
	if got != want || !untouched() {
		t.Fatalf("PathText(%#v) = %q, want %q; untouched: %v", path, got, want, untouched())
	}
	for _, c := range handed {
		if slices.ContainsFunc(letterTexts(c), func(text string) bool { return shares(got, text) }) {
			t.Fatalf("PathText(%#v) hands out a piece of a letter", path)
		}
	}
	return got
}

func TestPathText(t *testing.T) {
	for _, path := range [][]impl.Cert{nil, {}} {
		if got := impl.PathText(path); got != "" {
			t.Errorf("PathText of no letter = %q", got)
		}
	}
	a, b, c := someLetter(), bareLetter(), fullLetter()
	texts := map[string]int{}
	allLists([]impl.Cert{a, b, c}, 4, func(path []impl.Cert) { texts[checkPathText(t, path)]++ })
	if len(texts) != 1+3+9+27+81 {
		t.Errorf("%d texts: some ways have one text", len(texts))
	}
	first, _ := impl.CertText(a)
	second, _ := impl.CertText(c)
	if impl.PathText([]impl.Cert{a, c}) != first+second || impl.PathText([]impl.Cert{c, a}) != second+first {
		t.Error("PathText is not CertText of each, one behind the other")
	}
	for n := range len(wayNames()) + 1 {
		checkPathText(t, newTrial(n).sign(t).path)
	}
	checkPathText(t, slices.Repeat([]impl.Cert{c, a}, 200))
	// One that is not right has no text; the others have theirs.
	for _, turn := range wrongTurns() {
		wrong := changed(a, turn)
		checkPathText(t, []impl.Cert{wrong})
		checkPathText(t, []impl.Cert{a, wrong, c})
		checkPathText(t, []impl.Cert{wrong, b, wrong, wrong, c, wrong})
	}
	checkPathText(t, []impl.Cert{{}, a, {}})
	source := rand.New(rand.NewSource(120))
	for range 500 {
		path := []impl.Cert{}
		for range source.Intn(7) {
			path = append(path, drawnLetter(source))
		}
		checkPathText(t, path)
	}
}
