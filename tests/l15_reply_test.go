package tests

import (
	"encoding/asn1"
	"math"
	"math/rand"
	"slices"
	"strings"
	"testing"

	"loop.example/g00394/impl"
)

func TestReplyConstants(t *testing.T) {
	if impl.RpGood != 0 || impl.RpNoWay != 1 || impl.RpForm != 2 || impl.ErrForm != 1 || impl.ErrPlan != 2 {
		t.Errorf("RpGood %d, RpNoWay %d, RpForm %d, ErrForm %d, ErrPlan %d", impl.RpGood, impl.RpNoWay, impl.RpForm, impl.ErrForm, impl.ErrPlan)
	}
}

// listText: the bytes of a right list.
func listText(t *testing.T, x impl.Crl) string {
	t.Helper()
	text, ok := impl.CrlText(x)
	if !ok || len(text) > 400 {
		t.Fatalf("%#v: the case is none, its text has %d bytes", x, len(text))
	}
	return text
}

// someReply: a right one, with something in each of its fields but Error.
func someReply(t *testing.T) impl.Reply {
	t.Helper()
	return impl.Reply{
		Hash: impl.Digest("asked"), Nonce: 300, Time: 20, Next: 140, Plan: 1, Sig: "\x00\x01said by hand\xff",
		Answers: []impl.Answer{{Status: 0, Why: 0, Path: []string{letterText(t, bareLetter()), "b"}, Lists: []string{listText(t, emptyList())}}, {Status: 1, Why: 12}},
	}
}

// strayReply: a right one, whose texts are neither letters nor lists.
func strayReply() impl.Reply {
	return impl.Reply{
		Hash: textOfSize(32), Nonce: 70000, Time: 9999, Next: 10000, Plan: 98, Error: 2, Sig: textOfSize(15),
		Answers: []impl.Answer{{Status: 2, Why: 2, Path: []string{"", "\x00\xff"}}, {Status: 1, Why: 3, Lists: []string{"no list", "", "no list"}}, {Status: 0, Why: 5, Path: []string{"p"}, Lists: []string{"l"}}},
	}
}

// bareReply: a right one without Answers, of as little as there may be.
func bareReply() impl.Reply {
	return impl.Reply{Hash: strings.Repeat("\x00", 32), Sig: strings.Repeat("\x00", 15)}
}

// hollowReply: a right one, of three answers of nothing.
func hollowReply() impl.Reply {
	return impl.Reply{Hash: strings.Repeat("\x80", 32), Nonce: 128, Time: 128, Next: 128, Error: 1, Answers: make([]impl.Answer, 3), Sig: strings.Repeat("\x80", 15)}
}

// wideReply: a right one, of as many texts as there may be, and of the greatest numbers.
func wideReply() impl.Reply {
	r := impl.Reply{Hash: strings.Repeat("\xff", 32), Nonce: 1000000000, Time: 19999, Next: 19999, Plan: 99, Error: 2, Sig: strings.Repeat("\xff", 15)}
	for i := range 3 {
		r.Answers = append(r.Answers, impl.Answer{Status: 2, Why: 12, Path: slices.Repeat([]string{textOfSize(i)}, 5), Lists: slices.Repeat([]string{textOfSize(3 - i)}, 8)})
	}
	return r
}

func rightReplies(t *testing.T) []impl.Reply {
	t.Helper()
	return []impl.Reply{someReply(t), strayReply(), bareReply(), hollowReply(), wideReply()}
}

func clonedAnswers(list []impl.Answer) []impl.Answer {
	own := slices.Clone(list)
	for i := range own {
		own[i].Path, own[i].Lists = slices.Clone(own[i].Path), slices.Clone(own[i].Lists)
	}
	return own
}

// changedReply: the answer with one thing done to it, in memory of its own.
func changedReply(r impl.Reply, change func(r *impl.Reply)) impl.Reply {
	r.Answers = clonedAnswers(r.Answers)
	change(&r)
	return r
}

func sameAnswersByHand(a, b []impl.Answer) bool {
	if len(a) != len(b) {
		return false
	}
	for i := range a {
		if a[i].Status != b[i].Status || a[i].Why != b[i].Why || !slices.Equal(a[i].Path, b[i].Path) || !slices.Equal(a[i].Lists, b[i].Lists) {
			return false
		}
	}
	return true
}

func sameReply(a, b impl.Reply) bool {
	return a.Hash == b.Hash && a.Nonce == b.Nonce && a.Time == b.Time && a.Next == b.Next && a.Plan == b.Plan && a.Error == b.Error && a.Sig == b.Sig && sameAnswersByHand(a.Answers, b.Answers)
}

// replyRight: ReplyOk by hand.
func replyRight(r impl.Reply) bool {
	within := []struct{ n, most int }{{r.Nonce, 1000000000}, {r.Time, 19999}, {r.Next, 19999}, {r.Plan, 99}, {r.Error, 2}, {len(r.Answers), 3}}
	for _, x := range r.Answers {
		within = append(within, []struct{ n, most int }{{x.Status, 2}, {x.Why, 12}, {len(x.Path), 5}, {len(x.Lists), 8}}...)
		for _, text := range slices.Concat(x.Path, x.Lists) {
			within = append(within, struct{ n, most int }{len(text), 400})
		}
	}
	for _, one := range within {
		if one.n < 0 || one.n > one.most {
			return false
		}
	}
	return len(r.Hash) == 32 && len(r.Sig) == 15
}

func bytesItems(texts []string) impl.Item {
	list := itemOf(48, "")
	for _, text := range texts {
		list.Kids = append(list.Kids, itemOf(4, text))
	}
	return list
}

func replyBodyByHand(t *testing.T, r impl.Reply) impl.Item {
	t.Helper()
	answers := itemOf(48, "")
	for _, x := range r.Answers {
		answers.Kids = append(answers.Kids, itemOf(48, "", numberItem(t, x.Status), numberItem(t, x.Why), bytesItems(x.Path), bytesItems(x.Lists)))
	}
	return itemOf(48, "", itemOf(4, r.Hash), numberItem(t, r.Nonce), numberItem(t, r.Time), numberItem(t, r.Next), numberItem(t, r.Plan), numberItem(t, r.Error), answers)
}

func replyByHand(t *testing.T, r impl.Reply) impl.Item {
	t.Helper()
	return itemOf(48, "", replyBodyByHand(t, r), itemOf(4, r.Sig))
}

// replyBodyTextByHand: nothing when a list has too many kids, or all of it is too long.
func replyBodyTextByHand(t *testing.T, r impl.Reply) string {
	t.Helper()
	tooMany := func(x impl.Answer) bool { return len(x.Path) > 40 || len(x.Lists) > 40 }
	if len(r.Answers) > 40 || slices.ContainsFunc(r.Answers, tooMany) {
		return ""
	}
	if text := textByLibrary(t, replyBodyByHand(t, r)); len(text) <= 4000 {
		return text
	}
	return ""
}

// guardedReply: r with lists that have room behind them, and whether all of that is still as it was.
func guardedReply(r impl.Reply) (impl.Reply, func() bool) {
	behind := impl.Answer{Status: 77, Why: 77, Path: []string{"behind"}, Lists: []string{"behind"}}
	room := append(slices.Clone(r.Answers), behind, behind, behind)
	checks := []func() bool{}
	for i, x := range r.Answers {
		path, pathUntouched := guardedNames(x.Path)
		lists, listsUntouched := guardedNames(x.Lists)
		room[i].Path, room[i].Lists = path, lists
		checks = append(checks, pathUntouched, listsUntouched)
	}
	before := clonedAnswers(room)
	handed := r
	handed.Answers = room[:len(r.Answers)]
	return handed, func() bool {
		return sameAnswersByHand(room, before) && !slices.ContainsFunc(checks, func(untouched func() bool) bool { return !untouched() })
	}
}

type replyParts struct {
	Body struct {
		Hash                           []byte
		Nonce, Time, Next, Plan, Error int64
		Answers                        []struct {
			Status, Why int64
			Path, Lists [][]byte
		}
	}
	Sig []byte
}

// replyByLibrary: the right answer that the library's own reader of this form finds in the text. As that overlooks what stands behind the last part of a list, the answer is written again, and must make the same bytes.
func replyByLibrary(t *testing.T, text string) (impl.Reply, bool) {
	t.Helper()
	var parts replyParts
	rest, err := asn1.Unmarshal([]byte(text), &parts)
	if err != nil || len(rest) > 0 || len(text) > 4000 {
		return impl.Reply{}, false
	}
	body := parts.Body
	r := impl.Reply{Hash: string(body.Hash), Nonce: int(body.Nonce), Time: int(body.Time), Next: int(body.Next), Plan: int(body.Plan), Error: int(body.Error), Sig: string(parts.Sig)}
	for _, one := range body.Answers {
		x := impl.Answer{Status: int(one.Status), Why: int(one.Why)}
		for _, part := range one.Path {
			x.Path = append(x.Path, string(part))
		}
		for _, part := range one.Lists {
			x.Lists = append(x.Lists, string(part))
		}
		r.Answers = append(r.Answers, x)
	}
	if !replyRight(r) || textByLibrary(t, replyByHand(t, r)) != text {
		return impl.Reply{}, false
	}
	return r, true
}

// checkReadReply: what ReadReply answers of a text is held against the library's reader, whole; what is read is written to the same bytes. It tells whether there is an answer.
func checkReadReply(t *testing.T, text string) bool {
	t.Helper()
	want, ok := replyByLibrary(t, text)
	before := strings.Clone(text)
	got, right := impl.ReadReply(text)
	if right != ok || !sameReply(got, want) || text != before {
		t.Fatalf("ReadReply(%.400q) = %#v %v, want %#v %v", text, got, right, want, ok)
	}
	if !ok {
		return false
	}
	if again, written := impl.ReplyText(got); !written || again != text || !impl.ReplyOk(got) {
		t.Fatalf("ReadReply(%q) is true; ReplyText of it %q %v", text, again, written)
	}
	return true
}

func checkNoReply(t *testing.T, text string) {
	t.Helper()
	if checkReadReply(t, text) {
		t.Fatalf("%.400q: the case is none, there is an answer in it", text)
	}
}

func readReplyBack(t *testing.T, text string) impl.Reply {
	t.Helper()
	if !checkReadReply(t, text) {
		t.Fatalf("ReadReply(%.400q) is false", text)
	}
	back, _ := impl.ReadReply(text)
	return back
}

// checkReply: all that is asked of one answer but SignedReply, whole; promise 15, when it is right and not too long. It tells whether it has a text.
func checkReply(t *testing.T, r impl.Reply, want bool) bool {
	t.Helper()
	if byHand := replyRight(r); byHand != want {
		t.Fatalf("%#v: the case is none, by hand it is %v", r, byHand)
	}
	handed, untouched := guardedReply(r)
	if got := impl.ReplyOk(handed); got != want {
		t.Fatalf("ReplyOk(%#v) = %v, want %v", r, got, want)
	}
	body := replyBodyTextByHand(t, r)
	if got := impl.ReplyBody(handed); got != body {
		t.Fatalf("ReplyBody(%#v) = %.400q, want %.400q", r, got, body)
	}
	whole := textByLibrary(t, replyByHand(t, r))
	can := want && len(whole) <= 4000
	text, ok := impl.ReplyText(handed)
	if wantText := map[bool]string{true: whole}[can]; ok != can || text != wantText {
		t.Fatalf("ReplyText(%#v) = %.400q %v, want %.400q %v", r, text, ok, wantText, can)
	}
	if !untouched() {
		t.Fatalf("%#v: what was handed in is written to", r)
	}
	if !can {
		// Its bytes may be those of a right one: numbers out of range are told as 0.
		if checkReadReply(t, whole) && sameReply(r, readReplyBack(t, whole)) {
			t.Fatalf("%#v: it has no text, and comes back", r)
		}
		return false
	}
	if !strings.Contains(text, body) || body == "" {
		t.Fatalf("ReplyText(%#v) = %q, in which ReplyBody %q does not stand", r, text, body)
	}
	back := readReplyBack(t, text)
	if !sameReply(back, r) || !impl.SameAnswers(back.Answers, handed.Answers) || !untouched() {
		t.Fatalf("%#v comes back as %#v; untouched: %v", r, back, untouched())
	}
	return true
}

// comesBack: a right answer that has a text.
func comesBack(t *testing.T, r impl.Reply) {
	t.Helper()
	if !checkReply(t, r, true) {
		t.Fatalf("%#v: the case is none, it is too long", r)
	}
}

func TestRepliesInTheirBytes(t *testing.T) {
	sig, hash := "\x00sig of hand\x00\xff\x00", "\x00hash of hand, of 32 bytes all\x00\xff"
	long := strings.Repeat("t", 400)
	none := "\x30\x0a" + "\x02\x01\x00" + "\x02\x01\x00" + "\x30\x00" + "\x30\x00"
	cases := []struct {
		r    impl.Reply
		body string
		head string
	}{
		{
			impl.Reply{Hash: hash, Sig: sig},
			"\x30\x33" + "\x04\x20" + hash + "\x02\x01\x00" + "\x02\x01\x00" + "\x02\x01\x00" + "\x02\x01\x00" + "\x02\x01\x00" + "\x30\x00",
			"\x30\x46",
		},
		{
			impl.Reply{Hash: hash, Nonce: 1, Time: 2, Next: 3, Plan: 4, Error: 1, Answers: []impl.Answer{{}}, Sig: sig},
			"\x30\x3f" + "\x04\x20" + hash + "\x02\x01\x01" + "\x02\x01\x02" + "\x02\x01\x03" + "\x02\x01\x04" + "\x02\x01\x01" + "\x30\x0c" + none,
			"\x30\x52",
		},
		{
			impl.Reply{Hash: hash, Nonce: 1000000000, Time: 19999, Next: 128, Plan: 99, Error: 2, Answers: []impl.Answer{{Status: 2, Why: 12, Path: []string{"a\x00", ""}, Lists: []string{"b"}}, {}}, Sig: sig},
			"\x30\x59" + "\x04\x20" + hash + "\x02\x04\x3b\x9a\xca\x00" + "\x02\x02\x4e\x1f" + "\x02\x02\x00\x80" + "\x02\x01\x63" + "\x02\x01\x02" + "\x30\x21" + "\x30\x13" + "\x02\x01\x02" + "\x02\x01\x0c" + "\x30\x06\x04\x02a\x00\x04\x00" + "\x30\x03\x04\x01b" + none,
			"\x30\x6c",
		},
		{
			impl.Reply{Hash: hash, Answers: []impl.Answer{{Status: 1, Why: 3, Lists: []string{long}}}, Sig: sig},
			"\x30\x82\x01\xd9" + "\x04\x20" + hash + "\x02\x01\x00" + "\x02\x01\x00" + "\x02\x01\x00" + "\x02\x01\x00" + "\x02\x01\x00" + "\x30\x82\x01\xa4" + "\x30\x82\x01\xa0" + "\x02\x01\x01" + "\x02\x01\x03" + "\x30\x00" + "\x30\x82\x01\x94\x04\x82\x01\x90" + long,
			"\x30\x82\x01\xee",
		},
	}
	for _, c := range cases {
		whole := c.head + c.body + "\x04\x0f" + sig
		if got := impl.ReplyBody(c.r); got != c.body {
			t.Errorf("ReplyBody = %q, want %q", got, c.body)
		}
		if got, ok := impl.ReplyText(c.r); !ok || got != whole {
			t.Errorf("ReplyText = %q %v, want %q", got, ok, whole)
		}
		if got, ok := impl.ReadReply(whole); !ok || !sameReply(got, c.r) {
			t.Errorf("ReadReply(%q) = %#v %v, want %#v", whole, got, ok, c.r)
		}
		comesBack(t, c.r)
	}
}

// texts: so many, of so many bytes each.
func texts(count, size int) []string {
	return slices.Repeat([]string{textOfSize(size)}, count)
}

// TestRepliesComeBack: of none to three Answers, with and without texts in Path and in Lists, signed by each house.
func TestRepliesComeBack(t *testing.T) {
	letters := []string{letterText(t, someLetter()), letterText(t, bareLetter()), letterText(t, fullLetter())}
	lists := []string{listText(t, someList()), listText(t, emptyList()), listText(t, deltaList())}
	for count := range 4 {
		for paths := range 4 {
			for crls := range 4 {
				for house := range impl.Secrets {
					r := impl.Reply{Hash: impl.Digest(letters[0]), Nonce: count * 1000, Time: 20, Next: 40, Plan: paths}
					for i := range count {
						r.Answers = append(r.Answers, impl.Answer{Status: i, Why: 4 * i, Path: letters[:paths], Lists: lists[:crls]})
					}
					signed := checkSignedReply(t, r, house)
					comesBack(t, signed)
					text, _ := impl.ReplyText(signed)
					back := readReplyBack(t, text)
					if !impl.SigOk(impl.PublicAt(house), impl.ReplyBody(back), back.Sig) {
						t.Fatalf("what house %d signed comes back, and is not right: %#v", house, back)
					}
				}
			}
		}
	}
	for _, r := range rightReplies(t) {
		comesBack(t, r)
		// Nobody asks whether Time is ahead of Next, nor whether Status, Why, Error and the texts fit each other.
		comesBack(t, changedReply(r, func(r *impl.Reply) { r.Time, r.Next = 90, 10 }))
		comesBack(t, changedReply(r, func(r *impl.Reply) { r.Error = 1 }))
		comesBack(t, changedReply(r, func(r *impl.Reply) {
			r.Answers = []impl.Answer{{Status: 0, Why: 12}, {Status: 1, Why: 0, Path: letters[:1]}}
		}))
	}
}

// TestRepliesThatAreNothing: the zero value, and right answers with fields of it.
func TestRepliesThatAreNothing(t *testing.T) {
	checkReply(t, impl.Reply{}, false)
	checkReply(t, impl.Reply{Answers: make([]impl.Answer, 3)}, false)
	for _, r := range rightReplies(t) {
		comesBack(t, changedReply(r, func(r *impl.Reply) { r.Nonce, r.Time, r.Next, r.Plan, r.Error = 0, 0, 0, 0, 0 }))
		checkReply(t, changedReply(r, func(r *impl.Reply) { r.Hash = "" }), false)
		checkReply(t, changedReply(r, func(r *impl.Reply) { r.Sig = "" }), false)
		checkReply(t, changedReply(r, func(r *impl.Reply) { r.Hash, r.Sig = "", "" }), false)
		for _, answers := range [][]impl.Answer{nil, {}, r.Answers[:0]} {
			none := changedReply(r, func(r *impl.Reply) { r.Answers = answers })
			comesBack(t, none)
			text, _ := impl.ReplyText(none)
			if back := readReplyBack(t, text); len(back.Answers) != 0 {
				t.Errorf("without Answers it comes back with %d of them", len(back.Answers))
			}
		}
	}
}

// TestAnswersOfNothing: an answer of nothing is an answer, and stays one, at each place, and apart from none at all.
func TestAnswersOfNothing(t *testing.T) {
	full := impl.Answer{Status: 1, Why: 2, Path: []string{"p"}, Lists: []string{"l"}}
	nothings := []impl.Answer{{}, {Path: []string{}}, {Lists: []string{}}, {Path: []string{}, Lists: []string{}}, {Path: full.Path[:0], Lists: full.Lists[:0]}}
	for _, r := range rightReplies(t) {
		bodies := map[string]bool{}
		for count := range 4 {
			for _, nothing := range nothings {
				hollow := changedReply(r, func(r *impl.Reply) { r.Answers = slices.Repeat([]impl.Answer{nothing}, count) })
				comesBack(t, hollow)
				text, _ := impl.ReplyText(hollow)
				back := readReplyBack(t, text)
				if len(back.Answers) != count || !impl.SameAnswers(back.Answers, make([]impl.Answer, count)) {
					t.Errorf("%d answers of nothing come back as %#v", count, back.Answers)
				}
				bodies[impl.ReplyBody(hollow)] = true
				checkSignedReply(t, hollow, 4)
			}
		}
		if len(bodies) != 4 {
			t.Errorf("none to three answers of nothing have %d bodies, want 4", len(bodies))
		}
		for at := range 3 {
			mixed := changedReply(r, func(r *impl.Reply) {
				r.Answers = []impl.Answer{full, full, full}
				r.Answers[at] = impl.Answer{}
			})
			comesBack(t, mixed)
			comesBack(t, checkSignedReply(t, mixed, at))
		}
		// Texts of nothing are texts.
		for _, list := range [][]string{{""}, {"", ""}, {"", "a", ""}, make([]string, 5)} {
			for _, x := range []impl.Answer{{Path: list}, {Lists: list}, {Path: list, Lists: list}} {
				comesBack(t, changedReply(r, func(r *impl.Reply) { r.Answers = []impl.Answer{x, {}, x} }))
			}
		}
	}
}

// replyNumbers: the fields that are numbers, and what is the most that each may be.
func replyNumbers() []struct {
	most int
	of   func(r *impl.Reply) *int
} {
	type field = struct {
		most int
		of   func(r *impl.Reply) *int
	}
	list := []field{
		{1000000000, func(r *impl.Reply) *int { return &r.Nonce }},
		{19999, func(r *impl.Reply) *int { return &r.Time }},
		{19999, func(r *impl.Reply) *int { return &r.Next }},
		{99, func(r *impl.Reply) *int { return &r.Plan }},
		{2, func(r *impl.Reply) *int { return &r.Error }},
	}
	for at := range 3 {
		list = append(list, field{2, func(r *impl.Reply) *int { return &r.Answers[at].Status }}, field{12, func(r *impl.Reply) *int { return &r.Answers[at].Why }})
	}
	return list
}

func TestReplyNumbers(t *testing.T) {
	for _, r := range []impl.Reply{strayReply(), hollowReply(), wideReply()} {
		for _, field := range replyNumbers() {
			for _, n := range append(edgeNumbers(), 3, 4, 12, 13, 14, 19998, 19999, 20000, -field.most, field.most-1, field.most, field.most+1, field.most+1<<32, 1<<23-1, 1<<23, 1<<24) {
				if changed := changedReply(r, func(r *impl.Reply) { *field.of(r) = n }); n >= 0 && n <= field.most {
					comesBack(t, changed)
				} else {
					checkReply(t, changed, false)
				}
			}
		}
	}
	for n := -20; n <= 20020; n++ {
		if n > 300 && n < 19700 && n%16 != 0 {
			continue
		}
		checkReply(t, changedReply(bareReply(), func(r *impl.Reply) { r.Time, r.Nonce = n, max(n, 0) }), n >= 0 && n <= 19999)
		checkReply(t, changedReply(bareReply(), func(r *impl.Reply) { r.Next, r.Plan = n, max(n, 0)%100 }), n >= 0 && n <= 19999)
	}
}

// TestHashesAndSigs: DigestSize and KeySize bytes, of any kind.
func TestHashesAndSigs(t *testing.T) {
	sizes := []int{400, 1000, 3900, 4000, 5000, 65536, 1 << 20}
	for size := range 300 {
		sizes = append(sizes, size)
	}
	for _, r := range rightReplies(t) {
		for _, size := range sizes {
			checkReply(t, changedReply(r, func(r *impl.Reply) { r.Hash = textOfSize(size) }), size == impl.DigestSize)
			checkReply(t, changedReply(r, func(r *impl.Reply) { r.Sig = textOfSize(size) }), size == impl.KeySize)
			checkReply(t, changedReply(r, func(r *impl.Reply) { r.Hash, r.Sig = textOfSize(size), textOfSize(47-min(size, 47)) }), size == impl.DigestSize)
		}
		checkReply(t, changedReply(r, func(r *impl.Reply) { r.Hash, r.Sig = r.Sig, r.Hash }), false)
		checkReply(t, changedReply(r, func(r *impl.Reply) { r.Hash = impl.DigestHex("asked") }), false)
	}
	for b := range 256 {
		one := string([]byte{byte(b)})
		comesBack(t, changedReply(strayReply(), func(r *impl.Reply) { r.Hash, r.Sig = strings.Repeat(one, 32), strings.Repeat(one, 15) }))
	}
	// Bytes are counted, not runes.
	checkReply(t, changedReply(bareReply(), func(r *impl.Reply) { r.Hash = strings.Repeat("\xc3\xa4", 32) }), false)
	checkReply(t, changedReply(bareReply(), func(r *impl.Reply) { r.Sig = strings.Repeat("\xc3\xa4", 15) }), false)
	comesBack(t, changedReply(bareReply(), func(r *impl.Reply) { r.Hash, r.Sig = strings.Repeat("\xc3\xa4", 16), strings.Repeat("\xe2\x82\xac", 5) }))
}

// TestHowManyAnswers: at most 3; more than 40 can't be written, either.
func TestHowManyAnswers(t *testing.T) {
	for _, r := range rightReplies(t) {
		for _, x := range []impl.Answer{{}, {Status: 1, Why: 3, Path: []string{"p"}}, {Lists: []string{"l", ""}}} {
			for _, count := range []int{0, 1, 2, 3, 4, 5, 6, 9, 39, 40, 41, 42, 100, 1000} {
				many := changedReply(r, func(r *impl.Reply) { r.Answers = slices.Repeat([]impl.Answer{x}, count) })
				checkReply(t, many, count <= 3)
				if body := impl.ReplyBody(many); (body != "") != (count <= 40) {
					t.Errorf("ReplyBody of %d Answers has %d bytes", count, len(body))
				}
			}
		}
	}
}

// TestHowManyTexts: at most MaxPath in Path and MaxCrls in Lists, of each answer for itself.
func TestHowManyTexts(t *testing.T) {
	for _, size := range []int{0, 1, 20} {
		for at := range 3 {
			for _, paths := range []int{0, 1, 4, 5, 6, 7, 8, 9, 39, 40, 41, 100} {
				for _, crls := range []int{0, 1, 5, 7, 8, 9, 10, 39, 40, 41, 100} {
					r := changedReply(hollowReply(), func(r *impl.Reply) {
						r.Answers[at].Path, r.Answers[at].Lists = texts(paths, size), texts(crls, size)
					})
					checkReply(t, r, paths <= impl.MaxPath && crls <= impl.MaxCrls)
					if body := impl.ReplyBody(r); (body != "") != (paths <= 40 && crls <= 40) {
						t.Errorf("ReplyBody of %d and %d texts has %d bytes", paths, crls, len(body))
					}
				}
			}
		}
	}
	if impl.MaxPath != 5 || impl.MaxCrls != 8 {
		t.Errorf("MaxPath %d, MaxCrls %d", impl.MaxPath, impl.MaxCrls)
	}
	comesBack(t, wideReply())
}

// TestReplyTextSizes: 400 bytes at most, each of them for itself, at each place.
func TestReplyTextSizes(t *testing.T) {
	sizes := []int{405, 512, 800, 3999, 4000, 4001, 65536, 1 << 20}
	for size := range 404 {
		sizes = append(sizes, size)
	}
	places := []func(r *impl.Reply) *string{
		func(r *impl.Reply) *string { return &r.Answers[0].Path[0] }, func(r *impl.Reply) *string { return &r.Answers[0].Path[4] }, func(r *impl.Reply) *string { return &r.Answers[1].Lists[0] },
		func(r *impl.Reply) *string { return &r.Answers[2].Path[2] }, func(r *impl.Reply) *string { return &r.Answers[2].Lists[7] },
	}
	for _, size := range sizes {
		for _, place := range places {
			checkReply(t, changedReply(wideReply(), func(r *impl.Reply) { *place(r) = textOfSize(size) }), size <= 400)
		}
		for _, x := range []impl.Answer{{Path: texts(1, size)}, {Lists: texts(1, size)}} {
			checkReply(t, changedReply(bareReply(), func(r *impl.Reply) { r.Answers = []impl.Answer{x} }), size <= 400)
		}
	}
	// Bytes are counted, not runes.
	for _, one := range []string{"\xc3\xa4", "\xe2\x82\xac", "\xf0\x9f\x99\x82", "\xff\xfe"} {
		for _, count := range []int{99, 100, 101, 133, 134, 200, 201, 400} {
			text := strings.Repeat(one, count)
			checkReply(t, changedReply(hollowReply(), func(r *impl.Reply) { r.Answers[1].Path = []string{text} }), len(text) <= 400)
			checkReply(t, changedReply(hollowReply(), func(r *impl.Reply) { r.Answers[2].Lists = []string{text} }), len(text) <= 400)
		}
	}
}

// wrongReplyChanges: each makes a right answer wrong.
func wrongReplyChanges() []func(r *impl.Reply) {
	list := []func(r *impl.Reply){
		func(r *impl.Reply) { r.Hash = textOfSize(31) }, func(r *impl.Reply) { r.Hash = textOfSize(33) }, func(r *impl.Reply) { r.Sig = textOfSize(14) }, func(r *impl.Reply) { r.Sig = textOfSize(16) },
		func(r *impl.Reply) { r.Answers = append(r.Answers, make([]impl.Answer, 4)...) }, func(r *impl.Reply) { r.Answers[0].Path = make([]string, 6) }, func(r *impl.Reply) { r.Answers[2].Lists = make([]string, 9) },
		func(r *impl.Reply) { r.Answers[1].Path = texts(1, 401) }, func(r *impl.Reply) { r.Answers[2].Path = append(make([]string, 4), textOfSize(401)) }, func(r *impl.Reply) { r.Answers[0].Lists = append(make([]string, 7), textOfSize(401)) },
	}
	for _, field := range replyNumbers() {
		for _, n := range []int{-1, field.most + 1, math.MinInt, math.MaxInt} {
			list = append(list, func(r *impl.Reply) { *field.of(r) = n })
		}
	}
	return list
}

// TestRepliesWithTwoFaults: one fault doesn't make another one good.
func TestRepliesWithTwoFaults(t *testing.T) {
	for _, r := range []impl.Reply{strayReply(), hollowReply()} {
		for i, first := range wrongReplyChanges() {
			one := changedReply(r, first)
			checkReply(t, one, false)
			for _, second := range wrongReplyChanges()[i+1:] {
				checkReply(t, changedReply(one, second), false)
			}
		}
	}
}

// longReply: a right one, of so many bytes of text in all, as few texts as may be.
func longReply(size int) impl.Reply {
	r := hollowReply()
	for i := range r.Answers {
		for _, list := range []struct {
			of   *[]string
			most int
		}{{&r.Answers[i].Path, 5}, {&r.Answers[i].Lists, 8}} {
			for len(*list.of) < list.most && size > 0 {
				one := min(size, 400)
				*list.of = append(*list.of, textOfSize(one))
				size -= one
			}
		}
	}
	return r
}

// TestRepliesThatAreTooLong: an answer may be right, and have no text, or no body either.
func TestRepliesThatAreTooLong(t *testing.T) {
	longestBody, longestText, shortestAlone := 0, 0, math.MaxInt
	for size := 3700; size <= 4050; size++ {
		r := longReply(size)
		has := checkReply(t, r, true)
		body := impl.ReplyBody(r)
		text, _ := impl.ReplyText(r)
		longestBody, longestText = max(longestBody, len(body)), max(longestText, len(text))
		if body != "" && !has {
			shortestAlone = min(shortestAlone, len(body))
		}
		whole := textByLibrary(t, replyByHand(t, r))
		if read := checkReadReply(t, whole); read != (len(whole) <= 4000) {
			t.Fatalf("%d bytes: read %v", len(whole), read)
		}
	}
	if longestBody != impl.MaxBytes || longestText != impl.MaxBytes {
		t.Errorf("the longest body has %d bytes, the longest text %d, want %d", longestBody, longestText, impl.MaxBytes)
	}
	// The list around it, and the Sig, take 21 bytes.
	if shortestAlone != impl.MaxBytes-20 {
		t.Errorf("a body of %d bytes has no text, want %d or more", shortestAlone, impl.MaxBytes-20)
	}
	for _, r := range []impl.Reply{longReply(4400), longReply(8000), longReply(3 * 13 * 400)} {
		if checkReply(t, r, true) || impl.ReplyBody(r) != "" {
			t.Errorf("there is a text, or a body, of too much")
		}
		signed := checkSignedReply(t, r, 1)
		if signed.Sig != impl.SignWith(1, "") {
			t.Errorf("what is signed of an answer without a body is not the empty text: %x", signed.Sig)
		}
		checkReply(t, signed, true)
	}
	// Of what is not right the body may be as long.
	for _, r := range rightReplies(t) {
		longest := 0
		for size := 2500; size <= 4100; size++ {
			long := changedReply(r, func(r *impl.Reply) { r.Hash = textOfSize(size) })
			longest = max(longest, len(impl.ReplyBody(long)))
			if size%50 == 0 || size > 3000 && size < 3100 {
				checkReply(t, long, false)
			}
		}
		if longest != impl.MaxBytes {
			t.Errorf("the longest body has %d bytes, want %d", longest, impl.MaxBytes)
		}
	}
}

// TestTextsOfAnyKind: nobody asks whether Path has letters, nor Lists lists.
func TestTextsOfAnyKind(t *testing.T) {
	list := append(noLetters(t), letterText(t, someLetter()), letterText(t, fullLetter()))
	for _, r := range []impl.Reply{bareReply(), strayReply(), hollowReply()} {
		list = append(list, textByLibrary(t, replyByHand(t, r)))
	}
	for _, text := range list {
		for _, x := range []impl.Answer{{Path: []string{text}}, {Lists: []string{text}}, {Path: []string{text, text}, Lists: []string{text}}} {
			comesBack(t, changedReply(bareReply(), func(r *impl.Reply) { r.Answers = []impl.Answer{{}, x} }))
		}
	}
}

// differingReplies: right ones, no two of them the same, nor by their Sig alone.
func differingReplies(t *testing.T) []impl.Reply {
	t.Helper()
	list := rightReplies(t)
	for _, change := range []func(r *impl.Reply){
		func(r *impl.Reply) { r.Hash = impl.Digest("other") }, func(r *impl.Reply) { r.Nonce++ }, func(r *impl.Reply) { r.Time++ }, func(r *impl.Reply) { r.Next++ }, func(r *impl.Reply) { r.Plan++ }, func(r *impl.Reply) { r.Error++ },
		func(r *impl.Reply) { r.Time, r.Next = r.Next, r.Time }, func(r *impl.Reply) { r.Nonce, r.Time = r.Time, r.Nonce }, func(r *impl.Reply) { r.Plan, r.Error = 0, 1 }, func(r *impl.Reply) { r.Next, r.Plan = 1, 40 },
		func(r *impl.Reply) { r.Answers = nil }, func(r *impl.Reply) { r.Answers = make([]impl.Answer, 1) }, func(r *impl.Reply) { r.Answers = make([]impl.Answer, 2) }, func(r *impl.Reply) { r.Answers = r.Answers[:1] }, func(r *impl.Reply) { r.Answers = r.Answers[1:] }, func(r *impl.Reply) { slices.Reverse(r.Answers) },
		func(r *impl.Reply) { r.Answers = append(r.Answers, r.Answers[1]) }, func(r *impl.Reply) { r.Answers[0].Status = 1 }, func(r *impl.Reply) { r.Answers[0].Why = 1 }, func(r *impl.Reply) { r.Answers[1].Status, r.Answers[1].Why = 2, 11 },
		func(r *impl.Reply) { r.Answers[0].Path[1] = "c" }, func(r *impl.Reply) { slices.Reverse(r.Answers[0].Path) }, func(r *impl.Reply) { r.Answers[0].Path = nil }, func(r *impl.Reply) { r.Answers[0].Lists = nil }, func(r *impl.Reply) { r.Answers[1].Path = []string{""} },
		func(r *impl.Reply) { r.Answers[1].Lists = []string{""} }, func(r *impl.Reply) { r.Answers[0].Path, r.Answers[0].Lists = r.Answers[0].Lists, r.Answers[0].Path }, func(r *impl.Reply) { r.Answers[1].Path = []string{"ab"} }, func(r *impl.Reply) { r.Answers[1].Path = []string{"a", "b"} },
		func(r *impl.Reply) { r.Answers[1].Path, r.Answers[1].Lists = []string{"a"}, []string{"b"} }, func(r *impl.Reply) { r.Answers[1].Path = []string{"a\x04\x01b"} },
	} {
		list = append(list, changedReply(someReply(t), change))
	}
	return list
}

// TestRepliesThatDiffer: no two right answers have one text; they have one body when they differ in Sig alone.
func TestRepliesThatDiffer(t *testing.T) {
	list := differingReplies(t)
	for i, a := range list {
		comesBack(t, a)
		other := changedReply(a, func(r *impl.Reply) { r.Sig = "fifteen letters" })
		if impl.ReplyBody(other) != impl.ReplyBody(a) {
			t.Errorf("answer %d: its Sig is in its body", i)
		}
		one, _ := impl.ReplyText(a)
		if text, _ := impl.ReplyText(other); text == one {
			t.Errorf("answer %d: its Sig is not in its text", i)
		}
		for j, b := range list[:i] {
			if text, _ := impl.ReplyText(b); text == one || impl.ReplyBody(a) == impl.ReplyBody(b) {
				t.Errorf("answers %d and %d have one text", i, j)
			}
		}
	}
}

// drawnTexts: at most so many, of any bytes, letters and lists among them.
func drawnTexts(source *rand.Rand, most int) []string {
	list := []string{}
	for range drawnNumber(source, most) {
		text := make([]byte, []int{0, 1, 2, 20, 127, 128, source.Intn(60), source.Intn(401)}[source.Intn(8)])
		source.Read(text)
		switch source.Intn(4) {
		case 0:
			letter, _ := impl.CertText(drawnLetter(source))
			list = append(list, letter)
		case 1:
			crl, _ := impl.CrlText(drawnList(source))
			list = append(list, crl)
		default:
			list = append(list, string(text))
		}
	}
	return list
}

// drawnReply: a right one that has a text.
func drawnReply(source *rand.Rand) impl.Reply {
	for {
		r := impl.Reply{
			Hash: impl.Digest(drawnKey(source)), Nonce: drawnNumber(source, 1000000000), Time: drawnNumber(source, 19999), Next: drawnNumber(source, 19999), Plan: drawnNumber(source, 99), Error: source.Intn(3), Sig: drawnKey(source),
		}
		for range source.Intn(4) {
			r.Answers = append(r.Answers, impl.Answer{Status: source.Intn(3), Why: source.Intn(13), Path: drawnTexts(source, 5), Lists: drawnTexts(source, 8)})
		}
		if _, ok := impl.ReplyText(r); ok {
			return r
		}
	}
}

func TestDrawnRepliesComeBack(t *testing.T) {
	source := rand.New(rand.NewSource(15))
	counts := [4]int{}
	hollow := 0
	for range 3000 {
		r := drawnReply(source)
		comesBack(t, r)
		counts[len(r.Answers)]++
		if slices.ContainsFunc(r.Answers, func(x impl.Answer) bool { return len(x.Path)+len(x.Lists) == 0 }) {
			hollow++
		}
	}
	if slices.Min(counts[:]) < 200 || hollow < 100 {
		t.Errorf("%v of each number of Answers, %d without texts: too few", counts, hollow)
	}
}

// checkSignedReply: what house i signs is held whole.
func checkSignedReply(t *testing.T, r impl.Reply, i int) impl.Reply {
	t.Helper()
	want := r
	want.Sig = ""
	if i >= 0 && i < impl.Secrets {
		want.Sig = signByLibrary(t, i, replyBodyTextByHand(t, r))
	}
	handed, untouched := guardedReply(r)
	got := impl.SignedReply(handed, i)
	if !sameReply(got, want) || !untouched() {
		t.Fatalf("SignedReply(%#v, %d) = %#v, want %#v; untouched: %v", r, i, got, want, untouched())
	}
	return got
}

func TestSignedReply(t *testing.T) {
	for _, r := range rightReplies(t) {
		for i := range impl.Secrets {
			got := checkSignedReply(t, r, i)
			comesBack(t, got)
			for other := range impl.Secrets {
				if ok := impl.SigOk(impl.PublicAt(other), impl.ReplyBody(got), got.Sig); ok != (other == i) {
					t.Errorf("signed by house %d, by the key of house %d it is %v", i, other, ok)
				}
			}
			// What was signed before is no matter, and signing it again changes nothing.
			for _, sig := range []string{"", "short", got.Sig, textOfSize(15), textOfSize(16), textOfSize(5000)} {
				if again := checkSignedReply(t, changedReply(r, func(r *impl.Reply) { r.Sig = sig }), i); !sameReply(again, got) {
					t.Errorf("house %d signs otherwise of an answer with a Sig of %d bytes", i, len(sig))
				}
			}
		}
		for _, i := range noHouses() {
			got := checkSignedReply(t, r, i)
			if got.Sig != impl.SignWith(i, impl.ReplyBody(r)) || got.Sig != "" {
				t.Errorf("house %d, that there is none of, signs %x", i, got.Sig)
			}
			checkReply(t, got, false)
		}
	}
}

// TestSignedReplyOfAnother: what is signed of one answer holds of no other.
func TestSignedReplyOfAnother(t *testing.T) {
	list := differingReplies(t)
	for i, r := range list {
		house := i % impl.Secrets
		signed := impl.SignedReply(r, house)
		for j, other := range list {
			if ok := impl.SigOk(impl.PublicAt(house), impl.ReplyBody(other), signed.Sig); ok != (i == j) {
				t.Errorf("signed of answer %d, of answer %d it is %v", i, j, ok)
			}
		}
	}
}

// TestSignedReplyOfWrongReplies: what is signed is ReplyBody, whatever the answer is; the empty text, when there is none.
func TestSignedReplyOfWrongReplies(t *testing.T) {
	wrong := []impl.Reply{{}, {Answers: make([]impl.Answer, 40)}}
	for _, change := range wrongReplyChanges() {
		one := changedReply(strayReply(), change)
		if len(one.Sig) != impl.KeySize {
			// Its Sig was all that was wrong of it.
			if signed := checkSignedReply(t, one, 2); !sameReply(signed, impl.SignedReply(strayReply(), 2)) {
				t.Fatalf("%#v is signed as %#v", one, signed)
			}
			continue
		}
		wrong = append(wrong, one)
	}
	without := []impl.Reply{{Answers: make([]impl.Answer, 41)}, {Answers: []impl.Answer{{Path: make([]string, 41)}}}, {Answers: []impl.Answer{{}, {Lists: make([]string, 41)}}}, {Hash: textOfSize(4000)}, {Answers: []impl.Answer{{Path: texts(1, 1<<20)}}}}
	for at, r := range append(wrong, without...) {
		checkReply(t, r, false)
		if body := impl.ReplyBody(r); (body == "") != (at >= len(wrong)) {
			t.Fatalf("%#v: the case is none, its body has %d bytes", r, len(body))
		}
		for _, i := range []int{-1, 0, 3, 5, 6, math.MaxInt, math.MinInt} {
			got := checkSignedReply(t, r, i)
			if got.Sig != impl.SignWith(i, impl.ReplyBody(r)) || impl.ReplyOk(got) {
				t.Fatalf("SignedReply(%#v, %d) has the Sig %x, or is right", r, i, got.Sig)
			}
		}
	}
}

func TestSignedReplyOfDrawnReplies(t *testing.T) {
	source := rand.New(rand.NewSource(151))
	for round := range 150 {
		i := round % impl.Secrets
		got := checkSignedReply(t, drawnReply(source), i)
		comesBack(t, got)
		text, _ := impl.ReplyText(got)
		back := readReplyBack(t, text)
		if !impl.SigOk(impl.PublicAt(i), impl.ReplyBody(back), back.Sig) {
			t.Fatalf("signed by house %d, it comes back otherwise: %#v", i, back)
		}
		if back.Next ^= 1; impl.SigOk(impl.PublicAt(i), impl.ReplyBody(back), back.Sig) {
			t.Fatalf("signed by house %d, the signature holds of another answer, too: %#v", i, back)
		}
	}
}

func TestNoBytesAreNoReply(t *testing.T) {
	for _, text := range append(strayTexts(t, rand.New(rand.NewSource(152))), noLetters(t)...) {
		checkNoReply(t, text)
	}
}

// TestRepliesAreNothingElse: what one reader takes the others refuse.
func TestRepliesAreNothingElse(t *testing.T) {
	for _, c := range []impl.Cert{someLetter(), bareLetter(), fullLetter()} {
		checkNoReply(t, letterText(t, c))
		checkNoReply(t, impl.BodyText(c))
	}
	for _, x := range rightLists() {
		checkNoReply(t, listText(t, x))
		checkNoReply(t, impl.CrlBody(x))
	}
	for _, a := range rightAsks(t) {
		text, _ := impl.AskText(a)
		checkNoReply(t, text)
	}
	for _, r := range rightReplies(t) {
		text, _ := impl.ReplyText(r)
		for _, one := range []string{text, impl.ReplyBody(r)} {
			checkNoLetter(t, one)
			checkNoList(t, one)
			checkNoAsk(t, one)
		}
		checkNoReply(t, impl.ReplyBody(r))
	}
}

// TestRepliesWithBytesTurned: each byte of a text made each other byte; what is an answer then is another one, told in one way.
func TestRepliesWithBytesTurned(t *testing.T) {
	for _, r := range []impl.Reply{strayReply(), bareReply(), hollowReply()} {
		text, _ := impl.ReplyText(r)
		right, wrong := 0, 0
		for at := range len(text) {
			for bits := 1; bits < 256; bits++ {
				other := turned(text, at, byte(bits))
				if !checkReadReply(t, other) {
					wrong++
					continue
				}
				right++
				if back, _ := impl.ReadReply(other); sameReply(back, r) {
					t.Fatalf("%q and %q are read as one answer", text, other)
				}
			}
		}
		if right < 1000 || wrong < 1000 {
			t.Errorf("%d right, %d wrong: too few", right, wrong)
		}
	}
	for _, r := range []impl.Reply{someReply(t), wideReply()} {
		text, _ := impl.ReplyText(r)
		for at := range len(text) {
			for _, bits := range []byte{1, 2, 4, 16, 128, 255} {
				checkReadReply(t, turned(text, at, bits))
			}
		}
	}
}

// TestSignedRepliesWithBytesTurned: what is read of a signed answer with one byte turned, the house didn't sign.
func TestSignedRepliesWithBytesTurned(t *testing.T) {
	for i, r := range []impl.Reply{someReply(t), strayReply(), hollowReply()} {
		text, _ := impl.ReplyText(impl.SignedReply(r, i))
		for at := range len(text) {
			for _, bits := range []byte{1, 128} {
				back, ok := impl.ReadReply(turned(text, at, bits))
				if ok && impl.SigOk(impl.PublicAt(i), impl.ReplyBody(back), back.Sig) {
					t.Fatalf("byte %d turned by %d: it holds as if it were signed", at, bits)
				}
			}
		}
	}
}

func TestRepliesWithBytesMoreAndLess(t *testing.T) {
	for _, r := range []impl.Reply{someReply(t), strayReply(), bareReply(), hollowReply(), impl.SignedReply(strayReply(), 4)} {
		text, _ := impl.ReplyText(r)
		for _, other := range append(textsMoreAndLess(text), impl.ReplyBody(r)+r.Sig, impl.ReplyBody(r)+"\x04\x0f"+r.Sig) {
			checkNoReply(t, other)
		}
	}
	wide, _ := impl.ReplyText(wideReply())
	for _, other := range []string{wide[1:], wide[:len(wide)-1], wide + "\x00", wide + wide, wide + strings.Repeat("\x00", 4000-len(wide)), wide + strings.Repeat("\x00", 4001-len(wide))} {
		checkNoReply(t, other)
	}
	source := rand.New(rand.NewSource(154))
	right := 0
	for range 10000 {
		text, _ := impl.ReplyText(drawnReply(source))
		if checkReadReply(t, drawnDamage(source, text)) {
			right++
		}
	}
	if right < 1000 {
		t.Errorf("%d right: too few", right)
	}
}

func TestItemsThatAreNoReply(t *testing.T) {
	for _, r := range rightReplies(t) {
		right := 0
		for _, x := range itemsBeside(replyByHand(t, r)) {
			if checkReadReply(t, textByLibrary(t, x)) {
				right++
			}
		}
		if right < 20 {
			t.Errorf("%d right: too few", right)
		}
	}
}

// TestReplyLengthsInOneFormAlone: no length of an answer, nor of a part of it, may be written longer.
func TestReplyLengthsInOneFormAlone(t *testing.T) {
	for _, r := range rightReplies(t) {
		whole := replyByHand(t, r)
		for _, odd := range allOf(&whole) {
			for form := range 12 {
				text := withLength(&whole, odd, func(size int) string {
					forms := lengthForms(size)
					return forms[min(form, len(forms)-1)]
				})
				if right := checkReadReply(t, text); right != (form == 0) {
					t.Fatalf("%.400q: form %d, it is %v", text, form, right)
				}
			}
		}
	}
}

// TestReplyNumbersInOneFormAlone: no number of an answer may be written longer, below 0, or above MaxNumber.
func TestReplyNumbersInOneFormAlone(t *testing.T) {
	for _, r := range rightReplies(t) {
		whole := replyByHand(t, r)
		for _, place := range allOf(&whole) {
			if place.Tag != 2 {
				continue
			}
			own := place.Text
			for _, text := range []string{
				"", "\x00" + own, "\x00\x00" + own, "\x00\x00\x00\x00" + own, "\xff" + own, own + "\x00\x00\x00\x00\x00", "\x00\x00", "\x00\x01", "\x00\x7f", "\x00\x00\x80", "\x80", "\xff", "\xff\xff", "\xff\x7f",
				"\x3b\x9a\xca\x01", "\x7f\xff\xff\xff", "\x00\x80\x00\x00\x00", "\x01\x00\x00\x00\x00", "\x7f\xff\xff\xff\xff", "\x00\xff\xff\xff\xff\xff", "\x01\x00\x00\x00\x00\x00\x00\x00", "\x01\x00\x00\x00\x00\x00\x00\x00\x00", own + strings.Repeat("\x00", 200),
			} {
				place.Text = text
				checkNoReply(t, textByLibrary(t, whole))
			}
			place.Text = own
		}
		if !checkReadReply(t, textByLibrary(t, whole)) {
			t.Fatalf("%#v: the case is none", r)
		}
	}
}

func TestNamedItemsThatAreNoReply(t *testing.T) {
	const hash, nonce, time, next, plan, fault, answers = 0, 1, 2, 3, 4, 5, 6
	const status, why, path, lists = 0, 1, 2, 3
	body := func(x *impl.Item) *impl.Item { return &x.Kids[0] }
	kid := func(x *impl.Item, at int) *impl.Item { return &x.Kids[0].Kids[at] }
	answer := func(x *impl.Item, at int) *impl.Item { return &x.Kids[0].Kids[answers].Kids[at] }
	part := func(x *impl.Item, at, of int) *impl.Item { return &x.Kids[0].Kids[answers].Kids[at].Kids[of] }
	swap := func(x *impl.Item, one, other int) { x.Kids[one], x.Kids[other] = x.Kids[other], x.Kids[one] }
	none := func() impl.Item {
		return itemOf(48, "", itemOf(2, "\x00"), itemOf(2, "\x00"), itemOf(48, ""), itemOf(48, ""))
	}
	changes := map[string]func(x *impl.Item){
		"the whole, a kid more":         func(x *impl.Item) { x.Kids = append(x.Kids, itemOf(4, "")) },
		"the whole, two Sigs":           func(x *impl.Item) { x.Kids = append(x.Kids, x.Kids[1]) },
		"the whole, an empty list more": func(x *impl.Item) { x.Kids = append(x.Kids, itemOf(48, "")) },
		"the whole, a kid less":         func(x *impl.Item) { x.Kids = x.Kids[:1] },
		"the whole, without a body":     func(x *impl.Item) { x.Kids = x.Kids[1:] },
		"the whole, without kids":       func(x *impl.Item) { x.Kids = nil },
		"the whole, the Sig first":      func(x *impl.Item) { slices.Reverse(x.Kids) },
		"the whole in a list":           func(x *impl.Item) { *x = inLists(1, *x) },
		"the whole, of another tag":     func(x *impl.Item) { *x = itemOf(4, textByLibrary(t, *x)) },
		"the whole, in one list":        func(x *impl.Item) { x.Kids = append(slices.Clone(body(x).Kids), x.Kids[1]) },
		"the body alone":                func(x *impl.Item) { *x = *body(x) },
		"a body, a kid more":            func(x *impl.Item) { body(x).Kids = append(body(x).Kids, itemOf(48, "")) },
		"a body, Answers twice":         func(x *impl.Item) { body(x).Kids = append(body(x).Kids, cloned(*kid(x, answers))) },
		"a body, a number more":         func(x *impl.Item) { body(x).Kids = slices.Insert(body(x).Kids, answers, itemOf(2, "\x00")) },
		"a body, without Answers":       func(x *impl.Item) { body(x).Kids = body(x).Kids[:answers] },
		"a body, without Error":         func(x *impl.Item) { body(x).Kids = slices.Delete(body(x).Kids, fault, fault+1) },
		"a body, without Hash":          func(x *impl.Item) { body(x).Kids = body(x).Kids[1:] },
		"a body, without kids":          func(x *impl.Item) { body(x).Kids = nil },
		"a body, in a list":             func(x *impl.Item) { *body(x) = inLists(1, *body(x)) },
		"a body, of another tag":        func(x *impl.Item) { *body(x) = itemOf(4, textByLibrary(t, *body(x))) },
		"a body, from the last part on": func(x *impl.Item) { slices.Reverse(body(x).Kids) },
		"the body of a letter":          func(x *impl.Item) { *body(x) = bodyByHand(t, someLetter()) },
		"the body of a list":            func(x *impl.Item) { *body(x) = listBodyByHand(t, someList()) },
		"a question as a body":          func(x *impl.Item) { *body(x) = askByHand(t, strayAsk()) },
		"a Sig as text":                 func(x *impl.Item) { x.Kids[1] = itemOf(12, "fifteen letters") },
		"a Sig in a list":               func(x *impl.Item) { x.Kids[1] = inLists(1, x.Kids[1]) },
		"a Sig, a byte more":            func(x *impl.Item) { x.Kids[1].Text += "\x00" },
		"a Sig, a byte less":            func(x *impl.Item) { x.Kids[1].Text = x.Kids[1].Text[:14] },
		"a Sig of nothing":              func(x *impl.Item) { x.Kids[1].Text = "" },
		"a Hash as text":                func(x *impl.Item) { *kid(x, hash) = itemOf(12, strings.Repeat("a", 32)) },
		"a Hash as a number":            func(x *impl.Item) { *kid(x, hash) = itemOf(2, "\x05") },
		"a Hash in a list":              func(x *impl.Item) { *kid(x, hash) = inLists(1, *kid(x, hash)) },
		"a Hash, a byte more":           func(x *impl.Item) { kid(x, hash).Text += "\x00" },
		"a Hash, a byte less":           func(x *impl.Item) { kid(x, hash).Text = kid(x, hash).Text[1:] },
		"a Hash in figures":             func(x *impl.Item) { kid(x, hash).Text = impl.DigestHex("asked") },
		"a Hash of nothing":             func(x *impl.Item) { kid(x, hash).Text = "" },
		"Hash and Nonce, swapped":       func(x *impl.Item) { swap(body(x), hash, nonce) },
		"Error and Answers, swapped":    func(x *impl.Item) { swap(body(x), fault, answers) },
		"Nonce and Time, swapped":       func(x *impl.Item) { swap(body(x), nonce, time) },
		"Nonce and Next, swapped":       func(x *impl.Item) { swap(body(x), nonce, next) },
		"Time and Plan, swapped":        func(x *impl.Item) { swap(body(x), time, plan) },
		"Plan and Error, swapped":       func(x *impl.Item) { swap(body(x), plan, fault) },
		"numbers in a list of their own": func(x *impl.Item) {
			body(x).Kids = slices.Replace(body(x).Kids, nonce, answers, inLists(1, slices.Clone(body(x).Kids[nonce:answers])...))
		},
		"times in a list of their own": func(x *impl.Item) {
			body(x).Kids = slices.Replace(body(x).Kids, time, plan, inLists(1, *kid(x, time), *kid(x, next)))
		},
		"a text where Nonce stands":     func(x *impl.Item) { *kid(x, nonce) = itemOf(12, "1") },
		"bytes where Time stands":       func(x *impl.Item) { kid(x, time).Tag = 4 },
		"a flag where Next stands":      func(x *impl.Item) { *kid(x, next) = itemOf(1, "\x00") },
		"a list where Plan stands":      func(x *impl.Item) { *kid(x, plan) = inLists(1, *kid(x, plan)) },
		"a flag where Error stands":     func(x *impl.Item) { *kid(x, fault) = itemOf(1, "\x00") },
		"a Nonce beyond MaxNumber":      func(x *impl.Item) { kid(x, nonce).Text = "\x3b\x9a\xca\x01" },
		"a Nonce below 0":               func(x *impl.Item) { kid(x, nonce).Text = "\xff" },
		"a Nonce, a byte 0 ahead":       func(x *impl.Item) { kid(x, nonce).Text = "\x00\x05" },
		"a Time of 20000":               func(x *impl.Item) { *kid(x, time) = numberItem(t, 20000) },
		"a Next of 20000":               func(x *impl.Item) { *kid(x, next) = numberItem(t, 20000) },
		"a Next below 0":                func(x *impl.Item) { kid(x, next).Text = "\xb1\xe0" },
		"a Plan of 100":                 func(x *impl.Item) { *kid(x, plan) = numberItem(t, 100) },
		"an Error of 3":                 func(x *impl.Item) { *kid(x, fault) = numberItem(t, 3) },
		"an Error of 256":               func(x *impl.Item) { *kid(x, fault) = numberItem(t, 256) },
		"Answers as a number":           func(x *impl.Item) { *kid(x, answers) = itemOf(2, "\x00") },
		"Answers as bytes":              func(x *impl.Item) { *kid(x, answers) = itemOf(4, textByLibrary(t, *kid(x, answers))) },
		"Answers in two lists":          func(x *impl.Item) { *kid(x, answers) = inLists(1, *kid(x, answers)) },
		"Answers not in a list":         func(x *impl.Item) { body(x).Kids = slices.Concat(body(x).Kids[:answers], kid(x, answers).Kids) },
		"an Answer, not in a list":      func(x *impl.Item) { *kid(x, answers) = *answer(x, 0) },
		"four Answers":                  func(x *impl.Item) { kid(x, answers).Kids = append(kid(x, answers).Kids, cloned(*answer(x, 0))) },
		"four Answers of nothing":       func(x *impl.Item) { kid(x, answers).Kids = times(4, none()) },
		"forty Answers of nothing":      func(x *impl.Item) { kid(x, answers).Kids = times(40, none()) },
		"an Answer without parts":       func(x *impl.Item) { answer(x, 0).Kids = nil },
		"the last Answer without parts": func(x *impl.Item) { answer(x, 2).Kids = nil },
		"Answers, an empty list more":   func(x *impl.Item) { kid(x, answers).Kids = append(kid(x, answers).Kids[:1], itemOf(48, "")) },
		"Answers with a number behind":  func(x *impl.Item) { *answer(x, 2) = itemOf(2, "\x00") },
		"an Answer as bytes":            func(x *impl.Item) { *answer(x, 1) = itemOf(4, textByLibrary(t, *answer(x, 1))) },
		"an Answer in a list":           func(x *impl.Item) { *answer(x, 1) = inLists(1, *answer(x, 1)) },
		"an Answer without Status":      func(x *impl.Item) { answer(x, 0).Kids = answer(x, 0).Kids[1:] },
		"an Answer without Why":         func(x *impl.Item) { answer(x, 0).Kids = slices.Delete(answer(x, 0).Kids, why, why+1) },
		"an Answer without Path":        func(x *impl.Item) { answer(x, 0).Kids = slices.Delete(answer(x, 0).Kids, path, path+1) },
		"an Answer without Lists":       func(x *impl.Item) { answer(x, 0).Kids = answer(x, 0).Kids[:lists] },
		"the last Answer without Lists": func(x *impl.Item) { answer(x, 2).Kids = answer(x, 2).Kids[:lists] },
		"an Answer, a list more":        func(x *impl.Item) { answer(x, 0).Kids = append(answer(x, 0).Kids, itemOf(48, "")) },
		"the last Answer, a list more":  func(x *impl.Item) { answer(x, 2).Kids = append(answer(x, 2).Kids, itemOf(48, "")) },
		"an Answer, a number more":      func(x *impl.Item) { answer(x, 0).Kids = slices.Insert(answer(x, 0).Kids, path, itemOf(2, "\x00")) },
		"two Answers in one list":       func(x *impl.Item) { answer(x, 0).Kids = slices.Concat(answer(x, 0).Kids, answer(x, 1).Kids) },
		"an Answer, the lists first":    func(x *impl.Item) { slices.Reverse(answer(x, 0).Kids) },
		"Why and Path, swapped":         func(x *impl.Item) { swap(answer(x, 0), why, path) },
		"Status and Lists, swapped":     func(x *impl.Item) { swap(answer(x, 1), status, lists) },
		"a Status of 3":                 func(x *impl.Item) { *part(x, 0, status) = numberItem(t, 3) },
		"the last Status of 3":          func(x *impl.Item) { *part(x, 2, status) = numberItem(t, 3) },
		"a Status below 0":              func(x *impl.Item) { part(x, 1, status).Text = "\xff" },
		"a Status as a flag":            func(x *impl.Item) { *part(x, 1, status) = itemOf(1, "\x00") },
		"a Why of 13":                   func(x *impl.Item) { *part(x, 0, why) = numberItem(t, 13) },
		"the last Why of 13":            func(x *impl.Item) { *part(x, 2, why) = numberItem(t, 13) },
		"a Why as bytes":                func(x *impl.Item) { part(x, 1, why).Tag = 4 },
		"Status and Why, in a list": func(x *impl.Item) {
			answer(x, 0).Kids = slices.Replace(answer(x, 0).Kids, status, path, inLists(1, numberItems(t, 2, 2)...))
		},
		"a Path of six":                  func(x *impl.Item) { part(x, 0, path).Kids = times(6, itemOf(4, "")) },
		"a Path of forty":                func(x *impl.Item) { part(x, 0, path).Kids = times(40, itemOf(4, "")) },
		"the last Path of six":           func(x *impl.Item) { part(x, 2, path).Kids = times(6, itemOf(4, "p")) },
		"Lists of nine":                  func(x *impl.Item) { part(x, 1, lists).Kids = times(9, itemOf(4, "")) },
		"the last Lists of nine":         func(x *impl.Item) { part(x, 2, lists).Kids = times(9, itemOf(4, "l")) },
		"a text of 401 bytes in Path":    func(x *impl.Item) { part(x, 0, path).Kids[1] = octetsOf(401) },
		"a text of 401 bytes in Lists":   func(x *impl.Item) { part(x, 1, lists).Kids[2] = octetsOf(401) },
		"the last text of 401 bytes":     func(x *impl.Item) { part(x, 2, lists).Kids[0] = octetsOf(401) },
		"a text as a text, in Path":      func(x *impl.Item) { part(x, 2, path).Kids[0] = itemOf(12, "p") },
		"a text as a text, in Lists":     func(x *impl.Item) { part(x, 2, lists).Kids[0] = itemOf(12, "l") },
		"a text as a number":             func(x *impl.Item) { part(x, 0, path).Kids[0] = itemOf(2, "\x01") },
		"a text as a list":               func(x *impl.Item) { part(x, 1, lists).Kids[1] = itemOf(48, "") },
		"a text as a flag":               func(x *impl.Item) { part(x, 1, lists).Kids[0] = itemOf(1, "\xff") },
		"a letter that is not in bytes":  func(x *impl.Item) { part(x, 0, path).Kids[0] = letterByHand(t, bareLetter()) },
		"a list that is not in bytes":    func(x *impl.Item) { part(x, 1, lists).Kids[0] = listByHand(t, emptyList()) },
		"a text in Path, not in a list":  func(x *impl.Item) { *part(x, 2, path) = itemOf(4, "p") },
		"a text in Lists, not in a list": func(x *impl.Item) { *part(x, 2, lists) = itemOf(4, "l") },
		"Path in two lists":              func(x *impl.Item) { *part(x, 0, path) = inLists(1, *part(x, 0, path)) },
		"Lists in two lists":             func(x *impl.Item) { *part(x, 1, lists) = inLists(1, *part(x, 1, lists)) },
		"Path and Lists in one list": func(x *impl.Item) {
			answer(x, 2).Kids = slices.Replace(answer(x, 2).Kids, path, lists+1, inLists(1, *part(x, 2, path), *part(x, 2, lists)))
		},
		"texts of Path and Lists, as one": func(x *impl.Item) {
			answer(x, 2).Kids = slices.Replace(answer(x, 2).Kids, path, lists+1, inLists(1, itemOf(4, "p"), itemOf(4, "l")))
		},
	}
	for name, change := range changes {
		x := replyByHand(t, strayReply())
		change(&x)
		text := textByLibrary(t, x)
		if got, ok := impl.ReadReply(text); ok || !sameReply(got, impl.Reply{}) {
			t.Errorf("%s: ReadReply = %#v %v, want a whole refusal", name, got, ok)
		}
		checkNoReply(t, text)
	}
	// The edges that are met, in the same way.
	for name, change := range map[string]func(x *impl.Item){
		"nothing":                     func(x *impl.Item) {},
		"a Nonce of 0":                func(x *impl.Item) { *kid(x, nonce) = numberItem(t, 0) },
		"a Nonce of MaxNumber":        func(x *impl.Item) { *kid(x, nonce) = numberItem(t, impl.MaxNumber) },
		"a Time of 19999":             func(x *impl.Item) { *kid(x, time) = numberItem(t, 19999) },
		"a Time of 0":                 func(x *impl.Item) { *kid(x, time) = numberItem(t, 0) },
		"a Next of 19999":             func(x *impl.Item) { *kid(x, next) = numberItem(t, 19999) },
		"a Next of 0":                 func(x *impl.Item) { *kid(x, next) = numberItem(t, 0) },
		"Time and Next, swapped":      func(x *impl.Item) { swap(body(x), time, next) },
		"a Plan of 99":                func(x *impl.Item) { *kid(x, plan) = numberItem(t, 99) },
		"an Error of 0":               func(x *impl.Item) { *kid(x, fault) = numberItem(t, 0) },
		"an Error of 2":               func(x *impl.Item) { *kid(x, fault) = numberItem(t, 2) },
		"no Answers":                  func(x *impl.Item) { kid(x, answers).Kids = nil },
		"one Answer of nothing":       func(x *impl.Item) { kid(x, answers).Kids = times(1, none()) },
		"three Answers of nothing":    func(x *impl.Item) { kid(x, answers).Kids = times(3, none()) },
		"three Answers alike":         func(x *impl.Item) { kid(x, answers).Kids = times(3, *answer(x, 2)) },
		"a Status of 2":               func(x *impl.Item) { *part(x, 1, status) = numberItem(t, 2) },
		"a Why of 12":                 func(x *impl.Item) { *part(x, 1, why) = numberItem(t, 12) },
		"Status and Why, swapped":     func(x *impl.Item) { swap(answer(x, 0), status, why) },
		"Path and Lists, swapped":     func(x *impl.Item) { swap(answer(x, 1), path, lists) },
		"a Path of five":              func(x *impl.Item) { part(x, 0, path).Kids = times(5, itemOf(4, "")) },
		"a Path of none":              func(x *impl.Item) { part(x, 0, path).Kids = nil },
		"Lists of eight":              func(x *impl.Item) { part(x, 1, lists).Kids = times(8, itemOf(4, "l")) },
		"Lists of none":               func(x *impl.Item) { part(x, 1, lists).Kids = nil },
		"a text of 400 in Path":       func(x *impl.Item) { part(x, 0, path).Kids[1] = octetsOf(400) },
		"a text of 400 in Lists":      func(x *impl.Item) { part(x, 1, lists).Kids[2] = octetsOf(400) },
		"a text that is a letter":     func(x *impl.Item) { part(x, 0, path).Kids[0] = itemOf(4, letterText(t, bareLetter())) },
		"a text that is an answer":    func(x *impl.Item) { part(x, 2, lists).Kids[0] = itemOf(4, textByLibrary(t, *x)) },
		"a Sig that holds of nothing": func(x *impl.Item) { x.Kids[1] = octetsOf(15) },
	} {
		x := replyByHand(t, strayReply())
		change(&x)
		if !checkReadReply(t, textByLibrary(t, x)) {
			t.Errorf("%s: no answer", name)
		}
	}
}

// checkSameAnswers: what SameAnswers answers of two lists, either way round.
func checkSameAnswers(t *testing.T, a, b []impl.Answer, want bool) {
	t.Helper()
	if byHand := sameAnswersByHand(a, b); byHand != want {
		t.Fatalf("%#v and %#v: the case is none, by hand it is %v", a, b, byHand)
	}
	one, oneUntouched := guardedReply(impl.Reply{Answers: a})
	other, otherUntouched := guardedReply(impl.Reply{Answers: b})
	if there, back := impl.SameAnswers(one.Answers, other.Answers), impl.SameAnswers(other.Answers, one.Answers); there != want || back != want {
		t.Fatalf("SameAnswers(%#v, %#v) = %v, the other way round %v, want %v", a, b, there, back, want)
	}
	if !oneUntouched() || !otherUntouched() {
		t.Fatalf("SameAnswers writes to what is handed in: %#v, %#v", a, b)
	}
}

// answerChanges: each makes an answer with two texts or more in each list another one, by one field.
func answerChanges() []func(x *impl.Answer) {
	return []func(x *impl.Answer){
		func(x *impl.Answer) { x.Status++ }, func(x *impl.Answer) { x.Status = -1 }, func(x *impl.Answer) { x.Status += 1 << 32 }, func(x *impl.Answer) { x.Why-- }, func(x *impl.Answer) { x.Why = math.MaxInt }, func(x *impl.Answer) { x.Status, x.Why = x.Why, x.Status },
		func(x *impl.Answer) { x.Path = nil }, func(x *impl.Answer) { x.Path = x.Path[1:] }, func(x *impl.Answer) { x.Path = x.Path[:len(x.Path)-1] }, func(x *impl.Answer) { x.Path = append(x.Path, "") }, func(x *impl.Answer) { x.Path = append(x.Path, x.Path[0]) },
		func(x *impl.Answer) { slices.Reverse(x.Path) }, func(x *impl.Answer) { x.Path[0] += "\x00" }, func(x *impl.Answer) { x.Path[len(x.Path)-1] = "" }, func(x *impl.Answer) { x.Path[0] = x.Path[0][1:] }, func(x *impl.Answer) { x.Path = []string{strings.Join(x.Path, "")} },
		func(x *impl.Answer) { x.Lists = nil }, func(x *impl.Answer) { x.Lists = x.Lists[1:] }, func(x *impl.Answer) { x.Lists = x.Lists[:len(x.Lists)-1] }, func(x *impl.Answer) { x.Lists = append(x.Lists, "") }, func(x *impl.Answer) { slices.Reverse(x.Lists) },
		func(x *impl.Answer) { x.Lists[0] = strings.ToUpper(x.Lists[0]) }, func(x *impl.Answer) { x.Lists[len(x.Lists)-1] += "l" }, func(x *impl.Answer) { x.Path, x.Lists = x.Lists, x.Path }, func(x *impl.Answer) { x.Path, x.Lists = slices.Concat(x.Path, x.Lists), nil },
		func(x *impl.Answer) { x.Path, x.Lists = append(x.Path, x.Lists[0]), x.Lists[1:] },
	}
}

// TestSameAnswers: the same, and parting in one field, at each place.
func TestSameAnswers(t *testing.T) {
	list := []impl.Answer{
		{Status: 1, Why: 3, Path: []string{"ab", "c"}, Lists: []string{"l", "m", "n"}}, {Status: 0, Why: 5, Path: []string{"p", "q", "r"}, Lists: []string{"s", "t"}}, {Status: 2, Why: 9, Path: []string{textOfSize(400), "\x00"}, Lists: []string{"x", textOfSize(401)}},
	}
	copied := func() []impl.Answer {
		own := clonedAnswers(list)
		for i := range own {
			for _, texts := range [][]string{own[i].Path, own[i].Lists} {
				for j := range texts {
					texts[j] = strings.Clone(texts[j])
				}
			}
		}
		return own
	}
	checkSameAnswers(t, list, list, true)
	checkSameAnswers(t, list, copied(), true)
	for at := range list {
		for _, change := range answerChanges() {
			other := copied()
			change(&other[at])
			checkSameAnswers(t, list, other, false)
			checkSameAnswers(t, list[:at+1], other[:at+1], false)
			checkSameAnswers(t, list[at:], other[at:], false)
			checkSameAnswers(t, list[:at], other[:at], true)
			checkSameAnswers(t, list[at+1:], other[at+1:], true)
			checkSameAnswers(t, other, other, true)
		}
	}
	// Parting in their length, and in their order.
	for count := range len(list) {
		checkSameAnswers(t, list, copied()[:count], false)
		checkSameAnswers(t, list, copied()[count+1:], false)
		checkSameAnswers(t, list, append(copied(), list[count]), false)
	}
	for one := range list {
		for other := range one {
			swapped := copied()
			swapped[one], swapped[other] = swapped[other], swapped[one]
			checkSameAnswers(t, list, swapped, false)
		}
	}
	checkSameAnswers(t, list, []impl.Answer{list[1], list[2], list[0]}, false)
	checkSameAnswers(t, []impl.Answer{list[0], list[0]}, []impl.Answer{list[0]}, false)
	checkSameAnswers(t, []impl.Answer{list[0], list[0], list[1]}, []impl.Answer{list[0], list[1], list[1]}, false)
}

// TestSameAnswersOfNothing: no list is as good as an empty one; an answer of nothing is none the less one.
func TestSameAnswersOfNothing(t *testing.T) {
	full := []impl.Answer{{Path: []string{"p"}, Lists: []string{"l"}}}
	empties := [][]impl.Answer{nil, {}, full[:0], make([]impl.Answer, 0, 5)}
	nothings := []impl.Answer{{}, {Path: []string{}}, {Lists: []string{}}, {Path: full[0].Path[:0], Lists: full[0].Lists[:0]}}
	for _, a := range empties {
		for _, b := range empties {
			// Not by guarded copies alone: these are lists of a kind of their own.
			if !impl.SameAnswers(a, b) {
				t.Errorf("SameAnswers(%#v, %#v) is false", a, b)
			}
			checkSameAnswers(t, a, b, true)
		}
		checkSameAnswers(t, a, full, false)
		for _, nothing := range nothings {
			checkSameAnswers(t, a, []impl.Answer{nothing}, false)
		}
	}
	for _, one := range nothings {
		for _, other := range nothings {
			for count := range 4 {
				for more := range 4 {
					a, b := slices.Repeat([]impl.Answer{one}, count), slices.Repeat([]impl.Answer{other}, more)
					if impl.SameAnswers(a, b) != (count == more) {
						t.Errorf("SameAnswers of %d and %d answers of nothing is %v", count, more, count != more)
					}
					checkSameAnswers(t, a, b, count == more)
				}
			}
		}
		for _, other := range []impl.Answer{{Status: 1}, {Why: 1}, {Path: []string{""}}, {Lists: []string{""}}, full[0]} {
			checkSameAnswers(t, []impl.Answer{one}, []impl.Answer{other}, false)
			checkSameAnswers(t, []impl.Answer{one, other}, []impl.Answer{other, one}, false)
			checkSameAnswers(t, []impl.Answer{other, one}, []impl.Answer{other, {}}, true)
		}
	}
}

// TestSameAnswersOfWrongAnswers: nobody asks whether they are right.
func TestSameAnswersOfWrongAnswers(t *testing.T) {
	many := slices.Repeat([]impl.Answer{{Status: 1, Path: []string{"p"}}}, 1000)
	wrong := [][]impl.Answer{{{Status: -1}}, {{Status: 3}}, {{Why: 13}}, {{Why: -1}}, {{Status: math.MinInt, Why: math.MaxInt}}, {{Path: make([]string, 6)}}, {{Path: make([]string, 41)}}, {{Lists: make([]string, 9)}}, {{Path: texts(1, 1<<20)}}, {{Lists: texts(1, 401)}}, many, many[:999], make([]impl.Answer, 41)}
	for i, a := range wrong {
		for j, b := range wrong {
			checkSameAnswers(t, a, clonedAnswers(b), i == j)
		}
	}
}

func TestSameAnswersOfDrawnReplies(t *testing.T) {
	source := rand.New(rand.NewSource(155))
	same := 0
	last := []impl.Answer{}
	for range 2000 {
		one := drawnReply(source).Answers
		checkSameAnswers(t, one, clonedAnswers(one), true)
		alike := sameAnswersByHand(one, last)
		checkSameAnswers(t, one, last, alike)
		if alike {
			same++
		}
		last = one
	}
	if same < 20 {
		t.Errorf("%d alike: too few", same)
	}
}

// replyTexts: all texts of an answer.
func replyTexts(r impl.Reply) []string {
	list := []string{r.Hash, r.Sig}
	for _, x := range r.Answers {
		list = slices.Concat(list, x.Path, x.Lists)
	}
	return list
}

// replyMemory: where the lists of an answer's texts lie, with the room behind them.
func replyMemory(r impl.Reply) []stretch {
	list := []stretch{}
	for _, x := range r.Answers[:cap(r.Answers)] {
		list = append(list, memoryOf(x.Path), memoryOf(x.Lists))
	}
	return list
}

func checkOwnReply(t *testing.T, name string, answer impl.Reply, handed ...impl.Reply) {
	t.Helper()
	own := replyMemory(answer)
	for i, one := range own {
		if slices.ContainsFunc(own[:i], one.meets) {
			t.Fatalf("%s: two lists of one answer share memory", name)
		}
		for _, r := range handed {
			if slices.ContainsFunc(replyMemory(r), one.meets) {
				t.Fatalf("%s: a list of texts shares memory with an argument, or another answer", name)
			}
		}
	}
	for _, r := range handed {
		if memoryOf(answer.Answers).meets(memoryOf(r.Answers)) {
			t.Fatalf("%s: Answers share memory with an argument, or another answer", name)
		}
		for _, one := range replyTexts(answer) {
			if slices.ContainsFunc(replyTexts(r), func(other string) bool { return shares(one, other) }) {
				t.Fatalf("%s: a text shares memory with an argument, or another answer", name)
			}
		}
	}
}

// checkListsApart: what is written to one list of an answer, or put behind it, is to be seen in no other one.
func checkListsApart(t *testing.T, name string, answer impl.Reply) {
	t.Helper()
	want := changedReply(answer, func(*impl.Reply) {})
	for i := range answer.Answers {
		for _, list := range []*[]string{&answer.Answers[i].Path, &answer.Answers[i].Lists} {
			kept := slices.Clone(*list)
			longer := append(*list, "behind", "behind")
			for j := range longer {
				longer[j] = "spoilt"
			}
			for j := range *list {
				(*list)[j] = "spoilt"
			}
			for j := range kept {
				(*list)[j] = kept[j]
			}
			if !sameReply(answer, want) {
				t.Fatalf("%s: what is written to a list of answer %d is seen in another one: %#v, want %#v", name, i, answer, want)
			}
		}
	}
}

func spoilReply(r impl.Reply) {
	room := r.Answers[:cap(r.Answers)]
	for i, x := range room {
		for _, list := range [][]string{x.Path, x.Lists} {
			for j := range list[:cap(list)] {
				list[:cap(list)][j] = "spoilt"
			}
		}
		room[i] = impl.Answer{Status: -5, Why: -5, Path: []string{"spoilt"}, Lists: []string{"spoilt"}}
	}
}

// repliesInOneMemory: one list at several places, and lists that go on where another one ends.
func repliesInOneMemory(t *testing.T) []impl.Reply {
	t.Helper()
	row := []string{letterText(t, bareLetter()), listText(t, emptyList()), "\x00", "p", ""}
	list := []impl.Reply{}
	for _, answers := range [][]impl.Answer{
		{{Path: row, Lists: row}}, {{Path: row[:2], Lists: row[2:]}}, {{Path: row[:0], Lists: row}, {Path: row, Lists: row[:0]}}, {{Path: row[:0], Lists: row[:0]}, {Path: row[3:], Lists: row[:3]}}, {{Path: row}, {Path: row}, {Lists: row}}, {{}, {Lists: row[1:2]}, {}},
		{{Path: []string{row[0][:40], row[0][40:]}, Lists: []string{row[0][:40]}}},
	} {
		list = append(list, changedReply(bareReply(), func(r *impl.Reply) { r.Answers = answers }), impl.Reply{Hash: textOfSize(40), Nonce: -3, Answers: answers, Sig: "short"})
	}
	return list
}

func TestRepliesAreNewMemory(t *testing.T) {
	source := rand.New(rand.NewSource(156))
	replies := slices.Concat(rightReplies(t), repliesInOneMemory(t), []impl.Reply{{}, {Answers: make([]impl.Answer, 50)}, longReply(4400)})
	for range 200 {
		replies = append(replies, drawnReply(source))
	}
	for _, r := range replies {
		want := changedReply(r, func(r *impl.Reply) { r.Answers = clonedAnswers(r.Answers) })
		for _, i := range []int{2, -1} {
			first, second := impl.SignedReply(r, i), impl.SignedReply(r, i)
			kept := changedReply(second, func(*impl.Reply) {})
			checkOwnReply(t, "SignedReply", first, r, second)
			checkListsApart(t, "SignedReply", first)
			spoilReply(first)
			if !sameReply(r, want) || !sameReply(second, kept) || !sameReply(impl.SignedReply(r, i), kept) {
				t.Fatalf("SignedReply(%#v, %d) hands out what it keeps, or its argument", r, i)
			}
		}
		text, ok := impl.ReplyText(r)
		again, _ := impl.ReplyText(r)
		body := impl.ReplyBody(r)
		for _, other := range append(replyTexts(r), again) {
			if shares(text, other) || shares(body, other) {
				t.Fatal("ReplyText or ReplyBody hands out what it keeps, or a piece of its argument")
			}
		}
		if !ok {
			continue
		}
		first, _ := impl.ReadReply(text)
		second, _ := impl.ReadReply(text)
		checkOwnReply(t, "ReadReply", first, second, impl.Reply{Sig: text})
		checkListsApart(t, "ReadReply", first)
		spoilReply(first)
		if third, _ := impl.ReadReply(text); !sameReply(second, want) || !sameReply(third, want) {
			t.Fatalf("ReadReply(%q) hands out one memory twice", text)
		}
	}
}
