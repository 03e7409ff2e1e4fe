package tests

import (
	"encoding/asn1"
	"math/big"
	"math/rand"
	"slices"
	"strings"
	"testing"
	"unsafe"

	"loop.example/g00394/impl"
)

func itemOf(tag int, text string, kids ...impl.Item) impl.Item {
	return impl.Item{Tag: tag, Text: text, Kids: kids}
}

func octetsOf(size int) impl.Item { return itemOf(impl.TgBytes, textOfSize(size)) }

// inLists: so many lists in one another, the innermost one of these kids.
func inLists(deep int, kids ...impl.Item) impl.Item {
	x := itemOf(impl.TgList, "", kids...)
	for range deep - 1 {
		x = itemOf(impl.TgList, "", x)
	}
	return x
}

// times: so many of one item, each in memory of its own.
func times(count int, x impl.Item) []impl.Item {
	list := []impl.Item{}
	for range count {
		list = append(list, cloned(x))
	}
	return list
}

func cloned(x impl.Item) impl.Item {
	kids := []impl.Item{}
	for _, kid := range x.Kids {
		kids = append(kids, cloned(kid))
	}
	return itemOf(x.Tag, strings.Clone(x.Text), kids...)
}

// alike: SameItem by hand, of items that don't stand in themselves.
func alike(a, b impl.Item) bool {
	return a.Tag == b.Tag && a.Text == b.Text && slices.EqualFunc(a.Kids, b.Kids, alike)
}

// allOf: x and all that is below it.
func allOf(x *impl.Item) []*impl.Item {
	list := []*impl.Item{x}
	for i := range x.Kids {
		list = append(list, allOf(&x.Kids[i])...)
	}
	return list
}

// textByLibrary: an item in the bytes that the library's own writer of this form makes, whether the item is right or not.
func textByLibrary(t *testing.T, x impl.Item) string {
	t.Helper()
	body := []byte(x.Text)
	for _, kid := range x.Kids {
		body = append(body, textByLibrary(t, kid)...)
	}
	text, err := asn1.Marshal(asn1.RawValue{Class: x.Tag / 64, Tag: x.Tag % 32, IsCompound: x.Tag&32 != 0, Bytes: body})
	if err != nil {
		t.Fatalf("tag %d: the case is none: %v", x.Tag, err)
	}
	return string(text)
}

// guardedItem: x in lists that have room behind them, and whether all of that is still as it was.
func guardedItem(x impl.Item) (impl.Item, func() bool) {
	handed := cloned(x)
	behind := itemOf(77, "behind")
	// From below: a list that is laid anew takes its kids along as they are then.
	for _, one := range slices.Backward(allOf(&handed)) {
		one.Kids = append(one.Kids, behind, behind)[:len(one.Kids)]
	}
	return handed, func() bool {
		for _, one := range allOf(&handed) {
			room := one.Kids[len(one.Kids) : len(one.Kids)+2]
			if !alike(room[0], behind) || !alike(room[1], behind) {
				return false
			}
		}
		return alike(handed, x)
	}
}

// checkRight: x is right, its text is the library's, and comes back whole.
func checkRight(t *testing.T, x impl.Item) {
	t.Helper()
	handed, untouched := guardedItem(x)
	if !impl.ItemOk(handed) {
		t.Fatalf("ItemOk(%.200q) is false", textByLibrary(t, x))
	}
	want := textByLibrary(t, x)
	text, ok := impl.ItemText(handed)
	if !ok || text != want {
		t.Fatalf("ItemText = %.200q %v, want %.200q", text, ok, want)
	}
	if !untouched() {
		t.Fatalf("%.200q: what was handed in is written to", want)
	}
	back, ok := impl.ReadItem(text)
	if !ok || !alike(back, x) || !impl.SameItem(back, x) {
		t.Fatalf("ReadItem(%.200q) = %.200q %v", text, textByLibrary(t, back), ok)
	}
}

func checkNoText(t *testing.T, text string) {
	t.Helper()
	if x, ok := impl.ReadItem(text); ok || !alike(x, impl.Item{}) {
		t.Fatalf("ReadItem(%.200q) of %d bytes = %d %.200q, %d kids, %v, want a whole refusal", text, len(text), x.Tag, x.Text, len(x.Kids), ok)
	}
}

func checkNoItemText(t *testing.T, x impl.Item) {
	t.Helper()
	handed, untouched := guardedItem(x)
	if text, ok := impl.ItemText(handed); ok || text != "" {
		t.Fatalf("ItemText(%d %.200q, %d kids) = %.200q %v, want a whole refusal", x.Tag, x.Text, len(x.Kids), text, ok)
	}
	if !untouched() {
		t.Fatalf("%d %.200q, %d kids: what was handed in is written to", x.Tag, x.Text, len(x.Kids))
	}
}

// hasBytes: whether x has a text that is no other item's: its tags are bytes (the library writes those that end in 31 in another way), no list has a Text, and no other item Kids.
func hasBytes(x impl.Item) bool {
	return !slices.ContainsFunc(allOf(&x), func(one *impl.Item) bool {
		if one.Tag < 0 || one.Tag > 255 || one.Tag%32 == 31 {
			return true
		}
		return one.Tag == impl.TgList && one.Text != "" || one.Tag != impl.TgList && len(one.Kids) > 0
	})
}

// checkWrong: x is not right, alone and in a list, and no bytes are read as it.
func checkWrong(t *testing.T, x impl.Item) {
	t.Helper()
	for _, one := range []impl.Item{x, itemOf(impl.TgList, "", x), itemOf(impl.TgList, "", impl.IntItem(1), x, impl.IntItem(2))} {
		handed, untouched := guardedItem(one)
		if impl.ItemOk(handed) || !untouched() {
			t.Fatalf("ItemOk(%d %.200q, %d kids) is true, or writes to it", one.Tag, one.Text, len(one.Kids))
		}
		checkNoItemText(t, one)
		if hasBytes(one) {
			checkNoText(t, textByLibrary(t, one))
		}
	}
}

func TestItemConstants(t *testing.T) {
	got := []int{impl.TgBool, impl.TgInt, impl.TgBytes, impl.TgText, impl.TgList, impl.MaxBytes, impl.MaxDeep}
	if want := []int{1, 2, 4, 12, 48, 4000, 6}; !slices.Equal(got, want) {
		t.Errorf("constants %v, want %v", got, want)
	}
}

func TestItemsAndTheirBytes(t *testing.T) {
	cases := []struct {
		x    impl.Item
		want string
	}{
		{itemOf(impl.TgBool, "\x00"), "\x01\x01\x00"},
		{itemOf(impl.TgBool, "\xff"), "\x01\x01\xff"},
		{itemOf(impl.TgInt, "\x00"), "\x02\x01\x00"},
		{itemOf(impl.TgInt, "\x7f"), "\x02\x01\x7f"},
		{itemOf(impl.TgInt, "\x00\x80"), "\x02\x02\x00\x80"},
		{itemOf(impl.TgInt, "\x7f\xff\xff\xff\xff"), "\x02\x05\x7f\xff\xff\xff\xff"},
		{itemOf(impl.TgBytes, ""), "\x04\x00"},
		{itemOf(impl.TgBytes, "\x00\xff"), "\x04\x02\x00\xff"},
		{itemOf(impl.TgText, ""), "\x0c\x00"},
		{itemOf(impl.TgText, "a ~"), "\x0c\x03a ~"},
		{itemOf(impl.TgList, ""), "\x30\x00"},
		{itemOf(impl.TgList, "", itemOf(impl.TgList, "")), "\x30\x02\x30\x00"},
		{itemOf(impl.TgList, "", impl.IntItem(128), impl.TextItem("a")), "\x30\x07\x02\x02\x00\x80\x0c\x01a"},
		{inLists(3, itemOf(impl.TgBool, "\xff"), itemOf(impl.TgBytes, "")), "\x30\x09\x30\x07\x30\x05\x01\x01\xff\x04\x00"},
		{itemOf(impl.TgBytes, strings.Repeat("x", 127)), "\x04\x7f" + strings.Repeat("x", 127)},
		{itemOf(impl.TgBytes, strings.Repeat("x", 128)), "\x04\x81\x80" + strings.Repeat("x", 128)},
		{itemOf(impl.TgText, strings.Repeat("x", 255)), "\x0c\x81\xff" + strings.Repeat("x", 255)},
		{itemOf(impl.TgText, strings.Repeat("x", 256)), "\x0c\x82\x01\x00" + strings.Repeat("x", 256)},
		{itemOf(impl.TgList, "", itemOf(impl.TgBytes, strings.Repeat("x", 125))), "\x30\x7f\x04\x7d" + strings.Repeat("x", 125)},
		{itemOf(impl.TgList, "", itemOf(impl.TgBytes, strings.Repeat("x", 126))), "\x30\x81\x80\x04\x7e" + strings.Repeat("x", 126)},
	}
	for _, c := range cases {
		if got, ok := impl.ItemText(c.x); !ok || got != c.want {
			t.Errorf("ItemText = %.200q %v, want %.200q", got, ok, c.want)
		}
		if got, ok := impl.ReadItem(c.want); !ok || !alike(got, c.x) {
			t.Errorf("ReadItem(%.200q) = %.200q %v", c.want, textByLibrary(t, got), ok)
		}
		checkRight(t, c.x)
	}
}

func TestItemTags(t *testing.T) {
	right := []int{impl.TgBool, impl.TgInt, impl.TgBytes, impl.TgText, impl.TgList}
	tags := []int{48 + 1<<32, 4 + 1<<32, 4 - 256, -48, 1<<63 - 1, -1 << 63}
	for tag := -300; tag < 600; tag++ {
		tags = append(tags, tag)
	}
	for _, tag := range tags {
		// What each of the five would take, but for its tag.
		for _, text := range []string{"", "\x00", "a"} {
			if x := itemOf(tag, text); !slices.Contains(right, tag) {
				checkWrong(t, x)
			} else {
				want := map[int]bool{impl.TgBool: text == "\x00", impl.TgInt: text != "", impl.TgBytes: true, impl.TgText: text != "\x00", impl.TgList: text == ""}[tag]
				if impl.ItemOk(x) != want {
					t.Errorf("ItemOk(%d, %q) is %v", tag, text, !want)
				}
			}
		}
		if tag >= 0 && tag < 256 && !slices.Contains(right, tag) {
			for _, rest := range []string{"", "\x00", "\x01\x00", "\x01a", "\x02\x30\x00"} {
				text := string([]byte{byte(tag)}) + rest
				checkNoText(t, text)
				checkNoText(t, "\x30"+string([]byte{byte(len(text))})+text)
			}
		}
	}
	checkWrong(t, impl.Item{})
}

func TestBoolItems(t *testing.T) {
	for b := range 256 {
		text := string([]byte{byte(b)})
		x := itemOf(impl.TgBool, text)
		if b == 0 || b == 255 {
			checkRight(t, x)
		} else {
			checkWrong(t, x)
		}
		for _, other := range []string{text + text, "\x00" + text, text + "\xff"} {
			checkWrong(t, itemOf(impl.TgBool, other))
		}
	}
	checkWrong(t, itemOf(impl.TgBool, ""))
}

// intTexts: all of one and of two bytes, and longer ones of the bytes at the edges.
func intTexts() []string {
	list := []string{""}
	for n := range 256 {
		list = append(list, string([]byte{byte(n)}))
	}
	for n := range 65536 {
		list = append(list, string([]byte{byte(n / 256), byte(n)}))
	}
	long := []string{""}
	for range 6 {
		next := []string{}
		for _, text := range long {
			for _, b := range []string{"\x00", "\x01", "\x7f", "\x80", "\xff"} {
				next = append(next, b+text)
			}
		}
		list = append(list, next...)
		long = next
	}
	return list
}

// intRightByLibrary: whether the library writes the number of these bytes so, in five bytes at most.
func intRightByLibrary(t *testing.T, text string) bool {
	t.Helper()
	written, err := asn1.Marshal(bigBytes(text))
	if err != nil {
		t.Fatal(err)
	}
	return len(text) <= 5 && string(written[2:]) == text
}

func TestIntItems(t *testing.T) {
	limit := big.NewInt(impl.MaxNumber)
	for _, text := range intTexts() {
		x := itemOf(impl.TgInt, text)
		right := intRightByLibrary(t, text)
		if impl.ItemOk(x) != right {
			t.Fatalf("ItemOk of TgInt of %x is %v", text, !right)
		}
		written := textByLibrary(t, x)
		if got, ok := impl.ItemText(x); ok != right || right && got != written || !right && got != "" {
			t.Fatalf("ItemText of TgInt of %x = %x %v", text, got, ok)
		}
		if right {
			if got, ok := impl.ReadItem(written); !ok || !alike(got, x) {
				t.Fatalf("ReadItem(%x) = %d %x, %v", written, got.Tag, got.Text, ok)
			}
		} else {
			checkNoText(t, written)
		}
		want, ok := 0, right && bigBytes(text).Cmp(limit) <= 0
		if ok {
			want = int(bigBytes(text).Int64())
		}
		checkIntIn(t, x, want, ok)
	}
	for _, text := range []string{"", "\x00\x00", "\x00\x7f", "\x80", "\xff", "\x00\x01", "\x80\x00", "\x01\x02\x03\x04\x05\x06", "\x00\x80\x00\x00\x00\x00", "\x00\x00\x00\x00\x00\x00"} {
		checkWrong(t, itemOf(impl.TgInt, text))
	}
	for _, text := range []string{"\x00", "\x01", "\x7f", "\x00\x80", "\x00\xff", "\x01\x00", "\x01\x02\x03", "\x01\x02\x03\x04", "\x01\x02\x03\x04\x05", "\x00\x80\x00\x00\x00", "\x7f\xff\xff\xff\xff"} {
		checkRight(t, itemOf(impl.TgInt, text))
	}
}

func TestTextItems(t *testing.T) {
	for b := range 256 {
		text := string([]byte{byte(b)})
		for _, some := range []string{text, "a" + text, text + "a", "some " + text + " more", strings.Repeat("a", 200) + text} {
			x := impl.TextItem(some)
			if !alike(x, itemOf(impl.TgText, some)) {
				t.Errorf("TextItem(%q) = %d %q, %d kids", some, x.Tag, x.Text, len(x.Kids))
			}
			if b >= 32 && b <= 126 {
				checkRight(t, x)
			} else {
				checkWrong(t, x)
			}
		}
		checkRight(t, itemOf(impl.TgBytes, text))
	}
	checkRight(t, impl.TextItem(""))
	for _, s := range append(textsToTry(), longTexts()...) {
		x := impl.TextItem(s)
		if !alike(x, itemOf(impl.TgText, s)) || shares(x.Text, s) {
			t.Errorf("TextItem of %d bytes = %d, %d bytes, %d kids, or shares its memory", len(s), x.Tag, len(x.Text), len(x.Kids))
		}
	}
}

func TestListItems(t *testing.T) {
	for _, kid := range []impl.Item{impl.IntItem(7), impl.TextItem(""), itemOf(impl.TgBool, "\xff"), octetsOf(9), itemOf(impl.TgList, ""), inLists(2, impl.IntItem(300))} {
		for _, count := range []int{0, 1, 2, 39, 40} {
			checkRight(t, itemOf(impl.TgList, "", times(count, kid)...))
			checkRight(t, itemOf(impl.TgList, "", itemOf(impl.TgList, "", times(count, kid)...), kid))
		}
		for _, count := range []int{41, 42, 80, 255, 256, 257, 300} {
			checkWrong(t, itemOf(impl.TgList, "", times(count, kid)...))
		}
		for deep := 1; deep <= impl.MaxDeep-2; deep++ {
			checkRight(t, inLists(deep, times(40, kid)...))
			checkWrong(t, inLists(deep, times(41, kid)...))
		}
		checkWrong(t, itemOf(impl.TgList, "x", kid))
		checkWrong(t, itemOf(impl.TgList, "\x00", kid, kid))
		checkWrong(t, itemOf(impl.TgBool, "\x00", kid))
		checkWrong(t, itemOf(impl.TgBool, "", kid))
		checkWrong(t, itemOf(impl.TgInt, "\x01", kid))
		checkWrong(t, itemOf(impl.TgBytes, "a", kid))
		checkWrong(t, itemOf(impl.TgBytes, "", kid))
		checkWrong(t, itemOf(impl.TgText, "a", kid, kid))
		checkWrong(t, itemOf(impl.TgText, "", kid))
	}
	checkWrong(t, itemOf(impl.TgList, "x"))
	checkWrong(t, itemOf(impl.TgList, "\x30\x00"))
	checkWrong(t, itemOf(impl.TgBytes, "", itemOf(impl.TgList, "")))
}

func TestHowDeep(t *testing.T) {
	leaf := impl.IntItem(5)
	for deep := 1; deep <= 40; deep++ {
		list := []impl.Item{inLists(deep), inLists(deep, leaf), inLists(deep, leaf, leaf), inLists(deep, times(3, octetsOf(40))...)}
		if deep > 1 {
			// One way goes on so deep: the first one, the last one, one between.
			below := inLists(deep - 1)
			list = append(list, itemOf(impl.TgList, "", below, leaf, leaf), itemOf(impl.TgList, "", leaf, inLists(1), below), itemOf(impl.TgList, "", leaf, cloned(below), leaf, below))
		}
		for _, x := range list {
			if deep <= impl.MaxDeep {
				checkRight(t, x)
				continue
			}
			if impl.ItemOk(x) {
				t.Fatalf("ItemOk of %d lists in one another is true", deep)
			}
			checkNoItemText(t, x)
			checkNoText(t, textByLibrary(t, x))
		}
	}
	// Wide, and as deep as may be.
	wide := itemOf(impl.TgList, "", times(3, itemOf(impl.TgBool, "\x00"))...)
	for range impl.MaxDeep - 1 {
		wide = itemOf(impl.TgList, "", times(3, wide)...)
	}
	checkRight(t, wide)
	checkWrong(t, itemOf(impl.TgList, "", wide))
	for _, deep := range []int{100, 500, 1000, 2000} {
		checkNoText(t, textByLibrary(t, inLists(deep)))
	}
}

// TestHowLong: lengths at the edges of their form, and items of MaxBytes and of more bytes.
func TestHowLong(t *testing.T) {
	for size := range 600 {
		checkRight(t, octetsOf(size))
		checkRight(t, impl.TextItem(strings.Repeat("t", size)))
		checkRight(t, inLists(2, octetsOf(size)))
	}
	most := impl.MaxBytes - 4
	for less := -3; less <= 40; less++ {
		size := most - less
		for _, x := range []impl.Item{
			octetsOf(size),
			impl.TextItem(strings.Repeat("t", size)),
			itemOf(impl.TgList, "", octetsOf(size-4)),
			inLists(6, octetsOf(size-24)),
			itemOf(impl.TgList, "", octetsOf(size-4-7), impl.IntItem(256), impl.IntItem(1)),
			itemOf(impl.TgList, "", octetsOf(1000), octetsOf(1000), octetsOf(size-2*1004-4)),
			itemOf(impl.TgList, "", append(times(39, octetsOf(50)), octetsOf(size-39*52-4))...),
		} {
			if got := len(textByLibrary(t, x)); got != impl.MaxBytes-less {
				t.Fatalf("%d bytes, not %d: the case is none", got, impl.MaxBytes-less)
			}
			if less >= 0 {
				checkRight(t, x)
				continue
			}
			if !impl.ItemOk(x) {
				t.Fatalf("ItemOk is false: an item is right without its length")
			}
			checkNoItemText(t, x)
			checkNoText(t, textByLibrary(t, x))
		}
	}
	for _, size := range []int{impl.MaxBytes, 2 * impl.MaxBytes, 65535, 65536, 1 << 20, 1<<24 + 1} {
		for _, x := range []impl.Item{octetsOf(size), itemOf(impl.TgText, strings.Repeat("t", size)), inLists(3, octetsOf(size)), itemOf(impl.TgList, "", impl.IntItem(1), octetsOf(size), impl.IntItem(1))} {
			if !impl.ItemOk(x) {
				t.Fatalf("ItemOk of %d bytes is false", size)
			}
			checkNoItemText(t, x)
			checkNoText(t, textByLibrary(t, x))
		}
	}
	full := itemOf(impl.TgList, "", times(40, itemOf(impl.TgList, "", times(40, impl.IntItem(1000))...))...)
	if !impl.ItemOk(full) {
		t.Fatal("ItemOk of 40 lists of 40 is false")
	}
	checkNoItemText(t, full)
	checkNoText(t, textByLibrary(t, full))
}

// lengthForms: a length in the short form, as far as it goes, and in the long one with up to eight bytes; the first one is the shortest.
func lengthForms(size int) []string {
	forms := []string{}
	if size < 128 {
		forms = append(forms, string([]byte{byte(size)}))
	}
	bytes := big.NewInt(int64(size)).Bytes()
	for count := len(bytes); count <= 8; count++ {
		forms = append(forms, string([]byte{byte(128 + count)})+strings.Repeat("\x00", count-len(bytes))+string(bytes))
	}
	return append(forms, "\x80", "\xff"+strings.Repeat("\x00", 127-len(bytes))+string(bytes))
}

// TestOneLengthAlone: no length that could be shorter is read, nor one of other bytes than there are.
func TestOneLengthAlone(t *testing.T) {
	around := func(body string) string { return textByLibrary(t, itemOf(impl.TgBytes, body))[1:] }
	for _, size := range []int{0, 1, 2, 3, 5, 10, 126, 127, 128, 129, 130, 200, 254, 255, 256, 257, 258, 300, 511, 512, 3000, 3980} {
		texts := map[string]string{"\x04": strings.Repeat("x", size), "\x0c": strings.Repeat("y", size)}
		if size >= 2 {
			texts["\x30"] = textByLibrary(t, octetsOf(size-2))
			if len(texts["\x30"]) != size {
				texts["\x30"] = strings.Repeat("\x04\x00", 20)[:min(size/2, 20)*2]
			}
		}
		for tag, body := range texts {
			for i, form := range lengthForms(len(body)) {
				text := tag + form + body
				for _, one := range []string{text, "\x30" + around(text), "\x30" + around("\x02\x01\x05"+text+"\x0c\x01a"), "\x30" + around("\x30"+around(text))} {
					if i > 0 {
						checkNoText(t, one)
					} else if x, ok := impl.ReadItem(one); !ok || textByLibrary(t, x) != one {
						t.Fatalf("ReadItem(%.100q) of %d bytes is false", one, len(one))
					}
				}
				checkNoText(t, text+"\x04\x00")
				for _, other := range []string{body + "x", body + "\x00", body[:max(len(body)-1, 0)], body[:len(body)/2]} {
					if other == body {
						continue
					}
					text := tag + form + other
					checkNoText(t, text)
					checkNoText(t, "\x30"+around(text))
				}
			}
		}
	}
}

// TestBytesMoreAndLess: of a right text no beginning is one, nor one that goes on, and a list's kids end where it does.
func TestBytesMoreAndLess(t *testing.T) {
	source := rand.New(rand.NewSource(70))
	for range 200 {
		text := textByLibrary(t, drawnItem(source, 4, 300))
		for size := range len(text) {
			checkNoText(t, text[:size])
		}
		for b := range 256 {
			checkNoText(t, text+string([]byte{byte(b)}))
		}
		checkNoText(t, text+text)
		checkNoText(t, text+"\x30\x00")
	}
	for _, text := range []string{
		"", "\x30", "\x01", "\x01\x01", "\x04\x01", "\x04\x80", "\x04\x80\x00", "\x30\x80\x00\x00", "\x04\x81", "\x04\x82", "\x04\x82\x01", "\x04\xff",
		"\x30\x01\x02", "\x30\x02\x02\x01", "\x30\x03\x02\x02\x05", "\x30\x03\x02\x02\x01\x00", "\x30\x02\x02\x01\x05", "\x30\x04\x02\x01\x05\x02", "\x30\x05\x02\x01\x05\x02\x01",
		"\x30\x03\x30\x02\x04\x00", "\x30\x01\x30\x00", "\x30\x04\x30\x00", "\x30\x02\x30\x01", "\x30\x03\x30\x03\x04\x00\x00", "\x30\x04\x30\x03\x04\x00\x00",
		"\x30\x03\x02\x81\x00", "\x30\x01\x00", "\x30\x02\x00\x00", "\x00\x00", "\x00",
	} {
		checkNoText(t, text)
	}
}

// drawnItem: a right one, of at most so many lists in one another and of about so many bytes in each text.
func drawnItem(source *rand.Rand, deep, size int) impl.Item {
	switch kind := source.Intn(7); {
	case kind == 0:
		return itemOf(impl.TgBool, []string{"\x00", "\xff"}[source.Intn(2)])
	case kind == 1:
		return impl.IntItem(source.Intn(1 << source.Intn(30)))
	case kind == 2:
		return octetsOf(source.Intn(size + 1))
	case kind == 3:
		text := make([]byte, source.Intn(size+1))
		for i := range text {
			text[i] = byte(32 + source.Intn(95))
		}
		return impl.TextItem(string(text))
	case deep == 0:
		return itemOf(impl.TgInt, string([]byte{byte(source.Intn(127) + 1), 0, 1, 2, byte(source.Intn(256))}))
	}
	kids := []impl.Item{}
	for range source.Intn(5) {
		kids = append(kids, drawnItem(source, deep-1, size))
	}
	return itemOf(impl.TgList, "", kids...)
}

// TestDrawnItemsComeBack: promise 7, what is written is read.
func TestDrawnItemsComeBack(t *testing.T) {
	source := rand.New(rand.NewSource(7))
	lists := 0
	for round := range 5000 {
		x := drawnItem(source, impl.MaxDeep, []int{3, 20, 140, 300}[round%4])
		if len(textByLibrary(t, x)) > impl.MaxBytes {
			checkNoItemText(t, x)
			continue
		}
		checkRight(t, x)
		lists += len(x.Kids)
	}
	if lists < 2000 {
		t.Errorf("%d kids in all: too few", lists)
	}
}

// checkOneWay: promise 7 the other way round; whatever is read is written so again.
func checkOneWay(t *testing.T, text string) bool {
	t.Helper()
	x, ok := impl.ReadItem(text)
	if !ok {
		if !alike(x, impl.Item{}) {
			t.Fatalf("ReadItem(%q) is false, and tells something", text)
		}
		return false
	}
	if again, right := impl.ItemText(x); !right || again != text || !impl.ItemOk(x) {
		t.Fatalf("ReadItem(%q) is true; ItemText of it %q %v", text, again, right)
	}
	return true
}

// TestTurnedTexts: a right text with some of its bytes turned may be right again, but in one way alone.
func TestTurnedTexts(t *testing.T) {
	source := rand.New(rand.NewSource(77))
	right, wrong := 0, 0
	for range 3000 {
		text := textByLibrary(t, drawnItem(source, 5, 20))
		for range 30 {
			bytes := []byte(text)
			for range source.Intn(3) + 1 {
				at := source.Intn(len(bytes))
				switch source.Intn(4) {
				case 0:
					bytes[at] = byte(source.Intn(256))
				case 1:
					bytes[at]++
				case 2:
					bytes = slices.Insert(bytes, at, []byte{0, 1, 2, 4, 12, 48, 128, 129, 255}[source.Intn(9)])
				case 3:
					bytes[at] = []byte{0, 1, 2, 4, 12, 48, 128, 129, 255}[source.Intn(9)]
				}
			}
			if checkOneWay(t, string(bytes)) {
				right++
			} else {
				wrong++
			}
		}
	}
	if right < 1000 || wrong < 1000 {
		t.Errorf("%d right, %d wrong: too few", right, wrong)
	}
}

// allTexts: all texts of some bytes of alphabet, up to a size.
func allTexts(alphabet []byte, size int, each func(text string)) {
	var from func(text []byte)
	from = func(text []byte) {
		each(string(text))
		if len(text) == size {
			return
		}
		for _, b := range alphabet {
			from(append(slices.Clone(text), b))
		}
	}
	from(nil)
}

// rightTexts: the texts, up to a size, of all right items whose Text is of alphabet, made without reading any.
func rightTexts(alphabet []byte, size int) map[string]impl.Item {
	all := map[string]impl.Item{}
	if size < 2 {
		return all
	}
	add := func(x impl.Item, body string) {
		all[string([]byte{byte(x.Tag), byte(len(body))})+body] = x
	}
	allTexts(alphabet, size-2, func(text string) {
		add(itemOf(impl.TgBytes, text), text)
		if !strings.ContainsFunc(text, func(r rune) bool { return r < ' ' || r > '~' }) {
			add(itemOf(impl.TgText, text), text)
		}
		switch {
		case text == "":
		case text == "\x00" || text[0] > 0 && text[0] < 128 || len(text) > 1 && text[0] == 0 && text[1] >= 128:
			if len(text) <= 5 {
				add(itemOf(impl.TgInt, text), text)
			}
		}
	})
	add(itemOf(impl.TgBool, "\x00"), "\x00")
	add(itemOf(impl.TgBool, "\xff"), "\xff")
	kids := rightTexts(alphabet, size-2)
	var list func(made []impl.Item, body string)
	list = func(made []impl.Item, body string) {
		add(itemOf(impl.TgList, "", made...), body)
		for text, kid := range kids {
			if len(body)+len(text) <= size-2 {
				list(append(slices.Clone(made), kid), body+text)
			}
		}
	}
	list(nil, "")
	for text := range all {
		if len(text) > size {
			delete(all, text)
		}
	}
	return all
}

// TestAllShortTexts: of all short texts just those of right items are read, and as these.
func TestAllShortTexts(t *testing.T) {
	check := func(alphabet []byte, size int, least int) {
		right := rightTexts(alphabet, size)
		found := 0
		allTexts(alphabet, size, func(text string) {
			want, ok := right[text]
			x, got := impl.ReadItem(text)
			if got != ok || !alike(x, want) {
				t.Fatalf("ReadItem(%q) = %d %q, %d kids, %v, want %v", text, x.Tag, x.Text, len(x.Kids), got, ok)
			}
			if ok {
				found++
			}
		})
		if found < least {
			t.Errorf("%d right ones up to %d bytes: too few", found, size)
		}
	}
	every := []byte{}
	for b := range 256 {
		every = append(every, byte(b))
	}
	check(every, 3, 484)
	check([]byte{0, 1, 2, 3, 4, 12, 48, 127, 128, 129, 255}, 6, 500)
	check([]byte{0, 2, 4, 48, 128}, 9, 500)
}

func checkIntIn(t *testing.T, x impl.Item, want int, ok bool) {
	t.Helper()
	handed, untouched := guardedItem(x)
	if n, got := impl.IntIn(handed); n != want || got != ok || !untouched() {
		t.Fatalf("IntIn(%d %x, %d kids) = %d %v, want %d %v", x.Tag, x.Text, len(x.Kids), n, got, want, ok)
	}
}

func TestNumbersComeBack(t *testing.T) {
	cases := []struct {
		n    int
		want string
	}{
		{0, "\x00"}, {1, "\x01"}, {127, "\x7f"}, {128, "\x00\x80"}, {255, "\x00\xff"}, {256, "\x01\x00"}, {32767, "\x7f\xff"}, {32768, "\x00\x80\x00"},
		{8388607, "\x7f\xff\xff"}, {8388608, "\x00\x80\x00\x00"}, {impl.MaxNumber - 1, "\x3b\x9a\xc9\xff"}, {impl.MaxNumber, "\x3b\x9a\xca\x00"},
	}
	for _, c := range cases {
		if x := impl.IntItem(c.n); !alike(x, itemOf(impl.TgInt, c.want)) {
			t.Errorf("IntItem(%d) = %d %x, %d kids, want %x", c.n, x.Tag, x.Text, len(x.Kids), c.want)
		}
		checkRight(t, impl.IntItem(c.n))
	}
	for _, n := range numbersToTry() {
		x := impl.IntItem(n)
		written, err := asn1.Marshal(n)
		if err != nil {
			t.Fatal(err)
		}
		if n > impl.MaxNumber {
			written = []byte("\x02\x01\x00")
		}
		if !alike(x, itemOf(impl.TgInt, string(written[2:]))) {
			t.Fatalf("IntItem(%d) = %d %x, %d kids, want %x", n, x.Tag, x.Text, len(x.Kids), written[2:])
		}
		if text, ok := impl.ItemText(x); !ok || text != string(written) {
			t.Fatalf("ItemText of IntItem(%d) = %x %v, want %x", n, text, ok, written)
		}
		if n <= impl.MaxNumber {
			checkIntIn(t, x, n, true)
		}
	}
	for _, n := range numbersToRefuse() {
		if x := impl.IntItem(n); !alike(x, itemOf(impl.TgInt, "\x00")) {
			t.Errorf("IntItem(%d) = %d %x, %d kids, want that of 0", n, x.Tag, x.Text, len(x.Kids))
		}
	}
}

func TestIntInWrongItems(t *testing.T) {
	for _, text := range []string{"", "\x00\x00", "\x00\x01", "\x00\x7f", "\x80", "\xff", "\x80\x00", "\x3b\x9a\xca\x01", "\x3b\x9a\xcb\x00", "\x7f\xff\xff\xff", "\x00\x80\x00\x00\x00", "\x00\xff\xff\xff\xff", "\x00\x3b\x9a\xca\x00", "\x01\x00\x00\x00\x00", "\x7f\xff\xff\xff\xff", "\x00\x00\x00\x00\x00\x01", strings.Repeat("\x00", 8) + "\x01", strings.Repeat("\xff", 8), strings.Repeat("\x01", 100), "5"[:0]} {
		checkIntIn(t, itemOf(impl.TgInt, text), 0, false)
	}
	for _, tag := range []int{impl.TgBool, impl.TgBytes, impl.TgText, impl.TgList, 0, 3, -2, 258, 2 + 1<<32} {
		for _, text := range []string{"", "\x00", "\x05", "a", "\x00\x80"} {
			checkIntIn(t, itemOf(tag, text), 0, false)
		}
	}
	checkIntIn(t, impl.Item{}, 0, false)
	checkIntIn(t, itemOf(impl.TgInt, "\x05", impl.IntItem(5)), 0, false)
	checkIntIn(t, itemOf(impl.TgInt, "", impl.IntItem(5)), 0, false)
	checkIntIn(t, itemOf(impl.TgList, "", impl.IntItem(5)), 0, false)
	checkIntIn(t, itemOf(impl.TgInt, "5"), 53, true)
	checkIntIn(t, impl.Item{Tag: impl.TgInt, Text: "\x05", Kids: []impl.Item{}}, 5, true)
}

// differing: items no two of which are the same, right ones and wrong ones.
func differing() []impl.Item {
	leaf, other := impl.IntItem(1), impl.IntItem(2)
	return []impl.Item{
		{}, itemOf(0, "a"), itemOf(99, ""), itemOf(99, "a"), itemOf(-1, "a"), itemOf(99, "", leaf),
		itemOf(impl.TgBool, "\x00"), itemOf(impl.TgBool, "\xff"), itemOf(impl.TgBool, ""),
		itemOf(impl.TgInt, "\x00"), itemOf(impl.TgInt, "\xff"), itemOf(impl.TgInt, "\x00\x00"), leaf, other, itemOf(impl.TgInt, "\x01", leaf),
		itemOf(impl.TgBytes, ""), itemOf(impl.TgBytes, "a"), itemOf(impl.TgBytes, "b"), itemOf(impl.TgBytes, "ab"), itemOf(impl.TgBytes, "a", leaf), itemOf(impl.TgBytes, "\x02\x01\x01"),
		impl.TextItem(""), impl.TextItem("a"), impl.TextItem("b"), impl.TextItem("a\x00"), impl.TextItem("A"),
		itemOf(impl.TgList, ""), itemOf(impl.TgList, "a"), itemOf(impl.TgList, "\x02\x01\x01"), itemOf(impl.TgList, "a", leaf),
		inLists(1, leaf), inLists(1, other), inLists(1, leaf, other), inLists(1, other, leaf), inLists(1, leaf, leaf), inLists(1, leaf, leaf, leaf),
		inLists(2), inLists(3), inLists(2, leaf), inLists(1, inLists(1, leaf), other), inLists(1, inLists(1, leaf, other)), inLists(1, leaf, inLists(1, other)), inLists(1, inLists(1), inLists(1)),
		inLists(6, leaf), inLists(6, other), inLists(7, leaf), inLists(7, other), inLists(60, leaf), inLists(60, other), inLists(61, leaf),
		inLists(1, times(40, leaf)...), inLists(1, times(41, leaf)...), inLists(1, append(times(40, leaf), other)...),
		octetsOf(5000), octetsOf(5001),
	}
}

func checkSame(t *testing.T, a, b impl.Item, want bool) {
	t.Helper()
	a, untouchedA := guardedItem(a)
	b, untouchedB := guardedItem(b)
	if impl.SameItem(a, b) != want || impl.SameItem(b, a) != want {
		t.Fatalf("SameItem(%d %.50q, %d kids; %d %.50q, %d kids) is not %v", a.Tag, a.Text, len(a.Kids), b.Tag, b.Text, len(b.Kids), want)
	}
	if !untouchedA() || !untouchedB() {
		t.Fatal("SameItem writes to what is handed in")
	}
}

func TestSameItem(t *testing.T) {
	list := differing()
	for i, a := range list {
		for j, b := range list {
			checkSame(t, a, b, i == j)
			checkSame(t, inLists(2, impl.IntItem(9), a), inLists(2, impl.IntItem(9), b), i == j)
		}
		if !impl.SameItem(a, a) {
			t.Errorf("item %d is not the same as itself", i)
		}
	}
	if !impl.SameItem(impl.Item{Tag: impl.TgList}, impl.Item{Tag: impl.TgList, Kids: []impl.Item{}}) {
		t.Error("an empty list and nil are not the same")
	}
}

// TestSameItemFarBelow: whatever is turned, at whatever place, is told.
func TestSameItemFarBelow(t *testing.T) {
	source := rand.New(rand.NewSource(71))
	for range 60 {
		x := inLists(2, drawnItem(source, 5, 8), drawnItem(source, 5, 8), drawnItem(source, 9, 3))
		checkSame(t, x, x, true)
		for at := range allOf(&x) {
			turns := []func(one *impl.Item){
				func(one *impl.Item) { one.Tag++ },
				func(one *impl.Item) { one.Text += "\x00" },
				func(one *impl.Item) { one.Text = strings.Repeat("x", len(one.Text)+1)[:len(one.Text)] + "y" },
				func(one *impl.Item) { one.Kids = append(one.Kids, impl.Item{}) },
				func(one *impl.Item) { one.Kids = append([]impl.Item{impl.IntItem(0)}, one.Kids...) },
			}
			if one := allOf(&x)[at]; one.Text != "" {
				turns = append(turns, func(one *impl.Item) { one.Text = turned(one.Text, len(one.Text)-1, 1) }, func(one *impl.Item) { one.Text = one.Text[1:] })
			}
			if one := allOf(&x)[at]; len(one.Kids) > 0 {
				turns = append(turns, func(one *impl.Item) { one.Kids = one.Kids[1:] }, func(one *impl.Item) { one.Kids = one.Kids[:len(one.Kids)-1] })
			}
			for i, turn := range turns {
				other := cloned(x)
				turn(allOf(&other)[at])
				if alike(other, x) {
					t.Fatalf("turn %d at %d: the case is none", i, at)
				}
				checkSame(t, x, other, false)
			}
		}
	}
}

// TestSameItemInOneMemory: lists that lie in one memory are held against each other as any others.
func TestSameItemInOneMemory(t *testing.T) {
	memory := []impl.Item{impl.IntItem(1), impl.IntItem(1), impl.IntItem(2), impl.IntItem(1)}
	list := func(from, to int) impl.Item { return impl.Item{Tag: impl.TgList, Kids: memory[from:to]} }
	for from := range 4 {
		for to := from; to <= 4; to++ {
			for otherFrom := range 4 {
				for otherTo := otherFrom; otherTo <= 4; otherTo++ {
					a, b := list(from, to), list(otherFrom, otherTo)
					if impl.SameItem(a, b) != alike(a, b) {
						t.Fatalf("SameItem of %d to %d and %d to %d is %v", from, to, otherFrom, otherTo, !alike(a, b))
					}
					x, y := inLists(1, a, a, b), inLists(1, a, b, b)
					if impl.SameItem(x, y) != alike(x, y) {
						t.Fatalf("SameItem of lists of %d to %d and %d to %d is %v", from, to, otherFrom, otherTo, !alike(x, y))
					}
				}
			}
		}
	}
}

// TestSameItemOfBeginnings: that two lists begin alike tells nothing of the longer ones that lie at the same place.
func TestSameItemOfBeginnings(t *testing.T) {
	one, other := []impl.Item{impl.IntItem(1), impl.IntItem(1)}, []impl.Item{impl.IntItem(1), impl.IntItem(2)}
	ofSizes := func(memory []impl.Item, sizes ...int) impl.Item {
		list := []impl.Item{}
		for _, size := range sizes {
			list = append(list, impl.Item{Tag: impl.TgList, Kids: memory[:size]})
		}
		return itemOf(impl.TgList, "", list...)
	}
	for _, sizes := range [][]int{{1, 2}, {2, 1}, {0, 1, 2}, {2, 1, 0}, {1, 2, 1}} {
		if impl.SameItem(ofSizes(one, sizes...), ofSizes(other, sizes...)) || impl.SameItem(ofSizes(other, sizes...), ofSizes(one, sizes...)) {
			t.Errorf("lists of %d that differ in their last kid are the same", sizes)
		}
	}
	for _, sizes := range [][]int{{1}, {1, 1}, {0, 1}, {1, 0}} {
		if !impl.SameItem(ofSizes(one, sizes...), ofSizes(other, sizes...)) {
			t.Errorf("lists of %d that begin alike are not the same", sizes)
		}
	}
}

// stretch: where some memory lies.
type stretch struct{ from, to uintptr }

func (s stretch) meets(other stretch) bool { return s.from < other.to && other.from < s.to }

// listMemory: where the lists of x lie, with the room behind them.
func listMemory(x impl.Item) []stretch {
	list := []stretch{}
	for _, one := range allOf(&x) {
		if cap(one.Kids) > 0 {
			from := uintptr(unsafe.Pointer(unsafe.SliceData(one.Kids)))
			list = append(list, stretch{from, from + uintptr(cap(one.Kids))*unsafe.Sizeof(impl.Item{})})
		}
	}
	return list
}

func checkOwnMemory(t *testing.T, name string, answer impl.Item, handed ...impl.Item) {
	t.Helper()
	own := listMemory(answer)
	for i, one := range own {
		for _, other := range own[:i] {
			if one.meets(other) {
				t.Fatalf("%s: two lists of one answer share memory", name)
			}
		}
		for _, x := range handed {
			if slices.ContainsFunc(listMemory(x), one.meets) {
				t.Fatalf("%s: a list shares memory with an argument", name)
			}
		}
	}
	for _, one := range allOf(&answer) {
		for _, x := range handed {
			for _, other := range allOf(&x) {
				if shares(one.Text, other.Text) {
					t.Fatalf("%s: a text shares memory with an argument", name)
				}
			}
		}
	}
}

func TestListItem(t *testing.T) {
	leaf := octetsOf(20)
	twice := inLists(2, leaf, impl.TextItem("some text"))
	cases := append(differing(), twice, inLists(1, twice, twice, twice), impl.Item{Tag: impl.TgList, Kids: make([]impl.Item, 2, 50)})
	for _, x := range append(cases, itemOf(impl.TgList, "", cases...)) {
		handed, untouched := guardedItem(x)
		got := impl.ListItem(handed.Kids)
		if !alike(got, itemOf(impl.TgList, "", x.Kids...)) || !untouched() {
			t.Fatalf("ListItem of %d kids = %d %q, %d kids, or it writes to them", len(x.Kids), got.Tag, got.Text, len(got.Kids))
		}
		checkOwnMemory(t, "ListItem", got, handed)
		// With one memory in several places it is still as many lists.
		checkOwnMemory(t, "ListItem", impl.ListItem([]impl.Item{x, x, x}), x)
		if again := impl.ListItem([]impl.Item{x, x, x}); !alike(again, itemOf(impl.TgList, "", x, x, x)) {
			t.Fatalf("ListItem of one item three times is another one")
		}
		for _, one := range allOf(&got) {
			*one = itemOf(-5, "spoilt")
		}
		if !untouched() {
			t.Fatal("ListItem hands out what it was handed")
		}
	}
	for _, kids := range [][]impl.Item{nil, {}} {
		if got := impl.ListItem(kids); !alike(got, itemOf(impl.TgList, "")) || !impl.ItemOk(got) {
			t.Errorf("ListItem of nothing = %d %q, %d kids", got.Tag, got.Text, len(got.Kids))
		}
	}
	for _, count := range []int{1, 40, 41, 1000} {
		got := impl.ListItem(times(count, leaf))
		if len(got.Kids) != count || impl.ItemOk(got) != (count <= 40) {
			t.Errorf("ListItem of %d = %d kids", count, len(got.Kids))
		}
	}
	made := impl.IntItem(3)
	for deep := 1; deep <= 100; deep++ {
		made = impl.ListItem([]impl.Item{made})
		if !alike(made, inLists(deep, impl.IntItem(3))) || impl.ItemOk(made) != (deep <= impl.MaxDeep) {
			t.Fatalf("ListItem of %d lists in one another is wrong", deep)
		}
	}
}

func TestReadItemsAreNewMemory(t *testing.T) {
	source := rand.New(rand.NewSource(72))
	for range 500 {
		text := textByLibrary(t, drawnItem(source, impl.MaxDeep, 30))
		before := strings.Clone(text)
		one, _ := impl.ReadItem(text)
		other, ok := impl.ReadItem(text)
		if len(text) > impl.MaxBytes {
			continue
		}
		if !ok || text != before {
			t.Fatalf("ReadItem(%q) is %v, or it writes to it", before, ok)
		}
		checkOwnMemory(t, "ReadItem", one, other, itemOf(0, text))
		want := cloned(one)
		for _, x := range slices.Backward(allOf(&one)) {
			for i := range x.Kids[:cap(x.Kids)] {
				x.Kids[:cap(x.Kids)][i] = itemOf(-5, "spoilt")
			}
		}
		if third, _ := impl.ReadItem(text); !alike(other, want) || !alike(third, want) {
			t.Fatalf("ReadItem(%q) hands out one memory twice", text)
		}
		written, _ := impl.ItemText(other)
		for _, x := range allOf(&other) {
			if shares(written, x.Text) {
				t.Fatal("ItemText hands out a piece of its argument")
			}
		}
	}
	for n := range 300 {
		if shares(impl.IntItem(n).Text, impl.IntItem(n).Text) && n > 255 {
			t.Fatalf("IntItem(%d) hands out one memory twice", n)
		}
	}
}

// endless: lists that stand in themselves: at once, in two steps, forty times, and with their own end or their own beginning as a kid.
func endless(text string) []impl.Item {
	self := make([]impl.Item, 1)
	self[0] = impl.Item{Tag: impl.TgList, Kids: self}
	one, other := make([]impl.Item, 2), make([]impl.Item, 2)
	one[0], one[1] = impl.TextItem("one"), impl.Item{Tag: impl.TgList, Kids: other}
	other[0], other[1] = impl.TextItem(text), impl.Item{Tag: impl.TgList, Kids: one}
	wide := make([]impl.Item, 40)
	for i := range wide {
		wide[i] = impl.Item{Tag: impl.TgList, Kids: wide}
	}
	tail := make([]impl.Item, 3)
	tail[0], tail[1], tail[2] = impl.TextItem(text), impl.Item{Tag: impl.TgList, Kids: tail[1:]}, impl.Item{Tag: impl.TgList, Kids: tail}
	head := make([]impl.Item, 2)
	head[0], head[1] = impl.Item{Tag: impl.TgList, Kids: head[:1]}, impl.IntItem(1)
	list := []impl.Item{}
	for _, kids := range [][]impl.Item{self, one, wide, tail, head} {
		list = append(list, impl.Item{Tag: impl.TgList, Kids: kids})
	}
	return list
}

// TestEndlessItems: each call ends and is right for items that stand in themselves, too.
func TestEndlessItems(t *testing.T) {
	first, second, third := endless("some"), endless("some"), endless("more")
	for i, x := range first {
		if impl.ItemOk(x) {
			t.Errorf("item %d has no end, and is right", i)
		}
		if text, ok := impl.ItemText(x); ok || text != "" {
			t.Errorf("item %d has no end, and its text is %q", i, text)
		}
		if n, ok := impl.IntIn(impl.Item{Tag: impl.TgInt, Text: "\x01", Kids: x.Kids}); ok || n != 0 {
			t.Errorf("item %d is the number %d", i, n)
		}
		for j := range first {
			if impl.SameItem(x, second[j]) != (i == j) {
				t.Errorf("SameItem of %d and %d is %v", i, j, i != j)
			}
			// The second and the fourth one have that text in them.
			if impl.SameItem(x, third[j]) != (i == j && i%2 == 0) {
				t.Errorf("SameItem of %d and another %d is wrong", i, j)
			}
		}
		for _, finite := range differing() {
			if impl.SameItem(x, finite) || impl.SameItem(finite, x) {
				t.Errorf("item %d is the same as one with an end", i)
			}
		}
		got := impl.ListItem(x.Kids)
		if !impl.SameItem(got, x) || !impl.SameItem(x, second[i]) || &got.Kids[0] == &x.Kids[0] {
			t.Errorf("ListItem of item %d is another one, or the same memory", i)
		}
	}
	// One that comes round in one step, and in two.
	one, other := make([]impl.Item, 1), make([]impl.Item, 1)
	one[0], other[0] = impl.Item{Tag: impl.TgList, Kids: other}, impl.Item{Tag: impl.TgList, Kids: one}
	if !impl.SameItem(one[0], first[0]) || !impl.SameItem(first[0], other[0]) {
		t.Error("lists of lists without end are not the same")
	}
}

func TestVeryDeepItems(t *testing.T) {
	deep, other := inLists(100000, impl.IntItem(1)), inLists(100000, impl.IntItem(2))
	if impl.ItemOk(deep) || !impl.SameItem(deep, inLists(100000, impl.IntItem(1))) || impl.SameItem(deep, other) || impl.SameItem(deep, inLists(99999, impl.IntItem(1))) {
		t.Error("very deep items are right, or not the same")
	}
	checkNoItem := func(text string, ok bool) {
		if ok || text != "" {
			t.Errorf("ItemText of a very deep item = %.50q", text)
		}
	}
	checkNoItem(impl.ItemText(deep))
	if !impl.SameItem(impl.ListItem(deep.Kids), deep) {
		t.Error("ListItem of a very deep item is another one")
	}
}
