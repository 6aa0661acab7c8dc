package tests

import (
	"fmt"
	"math"
	"math/rand/v2"
	"slices"
	"strings"
	"sync"
	"testing"

	"loop.example/g00186/impl"
)

const (
	bookDigest = 32
	mostTries  = 3
	mostThings = 8
	mostCount  = 10000
)

func wordRec(word string) impl.Rec { return impl.Rec{Kind: 1, Text: digestByLibrary(word)} }

func triesRec(tries int) impl.Rec { return impl.Rec{Kind: 2, Num: tries} }

func thingRec(x impl.Thing) impl.Rec { return impl.Rec{Kind: 3, Thing: x} }

func goneRec(id int) impl.Rec { return impl.Rec{Kind: 4, Num: id} }

func modelBookNew() impl.Book {
	return impl.Book{Word: digestByLibrary(""), Chain: strings.Repeat("\x00", 32)}
}

func modelBookOk(b impl.Book) bool {
	ok := len(b.Word) == 32 && len(b.Chain) == 32
	ok = ok && b.Tries >= 0 && b.Tries <= 3 && len(b.Things) <= 8
	ok = ok && b.Last >= 0 && b.Last <= 1000 && b.Count >= 0 && b.Count <= 10000
	for i, x := range b.Things {
		ok = ok && modelThingOk(x) && x.Id <= b.Last
		for _, other := range b.Things[:i] {
			ok = ok && other.Id < x.Id
		}
	}
	return ok
}

func modelRecText(r impl.Rec) (string, bool) {
	noText, noNum, noThing := r.Text == "", r.Num == 0, r.Thing == impl.Thing{}
	switch {
	case r.Kind == 1 && len(r.Text) == 32 && noNum && noThing:
		return "\x01" + r.Text, true
	case r.Kind == 2 && r.Num >= 0 && r.Num <= 3 && noText && noThing:
		return "\x02" + modelVar(r.Num), true
	case r.Kind == 3 && modelThingOk(r.Thing) && noText && noNum:
		return "\x03" + thingBytes(r.Thing), true
	case r.Kind == 4 && r.Num >= 1 && r.Num <= 1000 && noText && noThing:
		return "\x04" + modelVar(r.Num), true
	}
	return "", false
}

// modelReadRec asks of every record that could have a text that begins with this Kind, whether it is right and has it.
func modelReadRec(text string) (impl.Rec, bool) {
	var list []impl.Rec
	switch {
	case text == "":
		return impl.Rec{}, false
	case text[0] == 1:
		list = append(list, impl.Rec{Kind: 1, Text: text[1:]})
	case text[0] == 3:
		thing, _ := modelReadThing(text[1:])
		list = append(list, thingRec(thing))
	}
	for num := range mostId + 1 {
		if strings.HasPrefix(text[1:], idBytes[num]) {
			list = append(list, triesRec(num), goneRec(num))
		}
	}
	for _, r := range list {
		if own, ok := modelRecText(r); ok && own == text {
			return r, true
		}
	}
	return impl.Rec{}, false
}

// modelKeeps: none of what a thing would not have any more by the chapter.
func modelKeeps(x, next impl.Thing) bool {
	switch {
	case next.Kind != x.Kind, next.Value != x.Value, next.Signs != x.Signs, next.Wraps != x.Wraps:
		return false
	case next.Next < x.Next:
		return false
	case x.Hidden && !next.Hidden, x.Fixed && !next.Fixed:
		return false
	}
	return true
}

// modelThings are the things behind a record, and the Last then.
func modelThings(b impl.Book, r impl.Rec) ([]impl.Thing, int, bool) {
	var list []impl.Thing
	there := false
	for _, x := range b.Things {
		switch {
		case r.Kind == 4 && x.Id == r.Num:
			there = true
			continue
		case r.Kind == 3 && x.Id == r.Thing.Id:
			there = true
			if !modelKeeps(x, r.Thing) {
				return nil, 0, false
			}
			x = r.Thing
		}
		list = append(list, x)
	}
	switch {
	case there || r.Kind == 1 || r.Kind == 2:
		return list, b.Last, true
	case r.Kind == 3 && r.Thing.Id == b.Last+1 && len(list) < 8:
		return append(list, r.Thing), r.Thing.Id, true
	}
	return nil, 0, false
}

func modelEnter(b impl.Book, r impl.Rec) (impl.Book, bool) {
	text, right := modelRecText(r)
	things, last, fits := modelThings(b, r)
	if !modelBookOk(b) || !right || !fits || b.Count == 10000 {
		return impl.Book{}, false
	}
	out := impl.Book{Word: b.Word, Tries: b.Tries, Things: things, Last: last, Chain: digestByLibrary(b.Chain + text), Count: b.Count + 1}
	switch r.Kind {
	case 1:
		out.Word, out.Tries = r.Text, 0
	case 2:
		out.Tries = r.Num
	}
	return out, true
}

func modelEnterAll(b impl.Book, list []impl.Rec) (impl.Book, bool) {
	for _, r := range list {
		ok := false
		if b, ok = modelEnter(b, r); !ok {
			return impl.Book{}, false
		}
	}
	return b, true
}

func modelChainOk(b impl.Book, list []impl.Rec) bool {
	all, ok := modelEnterAll(modelBookNew(), list)
	return ok && all.Chain == b.Chain && all.Count == b.Count
}

func modelThingOf(b impl.Book, id int) (impl.Thing, bool) {
	for _, x := range b.Things {
		if x.Id == id {
			return x, true
		}
	}
	return impl.Thing{}, false
}

func sameBook(a, b impl.Book) bool {
	return a.Word == b.Word && a.Tries == b.Tries && slices.Equal(a.Things, b.Things) && a.Last == b.Last && a.Chain == b.Chain && a.Count == b.Count
}

func isZeroBook(b impl.Book) bool {
	return sameBook(b, impl.Book{})
}

func tellRec(r impl.Rec) string {
	return fmt.Sprintf("{kind %d, Text of %s, Num %d, %s}", r.Kind, tellSeed(r.Text), r.Num, tellThing(r.Thing))
}

func tellBook(b impl.Book) string {
	var things []string
	for _, x := range b.Things {
		things = append(things, tellThing(x))
	}
	return fmt.Sprintf("the book {Word of %s, Tries %d, [%s], Last %d, Chain of %s, Count %d}", tellSeed(b.Word), b.Tries, strings.Join(things, "; "), b.Last, tellSeed(b.Chain), b.Count)
}

func ownRec(r impl.Rec) impl.Rec {
	r.Text, r.Thing = strings.Clone(r.Text), ownThing(r.Thing)
	return r
}

// ownBook is one like it that shares no memory with it, and has spare room behind its Things; and whether nothing was written into it since.
func ownBook(b impl.Book) (impl.Book, func() bool) {
	var own []impl.Thing
	for _, x := range b.Things {
		own = append(own, ownThing(x))
	}
	things, thingsStay := guarded(own, impl.Thing{Id: 77, Kind: 3, Value: "spare room"})
	given := b
	given.Word, given.Chain, given.Things = strings.Clone(b.Word), strings.Clone(b.Chain), things
	return given, func() bool { return thingsStay() && sameBook(given, b) }
}

func textsOfBook(b impl.Book) []string {
	list := []string{b.Word, b.Chain}
	for _, x := range b.Things {
		list = append(list, x.Value)
	}
	return list
}

// expectOwnBooks asks that two answers share no memory with each other, nor with what was given.
func expectOwnBooks(t *testing.T, what string, got, again, given impl.Book, recs ...impl.Rec) {
	t.Helper()
	if listsShare(got.Things, given.Things) || listsShare(again.Things, given.Things) || listsShare(got.Things, again.Things) {
		t.Errorf("%s: the Things of the answer are those of another book", what)
	}
	texts := textsOfBook(given)
	for _, r := range recs {
		texts = append(texts, r.Text, r.Thing.Value)
	}
	expectOwnTexts(t, what, append(textsOfBook(got), textsOfBook(again)...), texts...)
}

// spoil changes all of a list that was handed in.
func spoil[E any](list []E, mark E) {
	for i := range list {
		list[i] = mark
	}
}

func expectBookOk(t *testing.T, b impl.Book) bool {
	t.Helper()
	given, stays := ownBook(b)
	got, again := impl.BookOk(given), impl.BookOk(given)
	if want := modelBookOk(b); got != want || again != want || !stays() {
		t.Errorf("BookOk of %s = %v, and %v the next time, want %v", tellBook(b), got, again, want)
	}
	return got
}

func expectRecText(t *testing.T, r impl.Rec) (string, bool) {
	t.Helper()
	given := ownRec(r)
	got, ok := impl.RecText(given)
	again, right := impl.RecText(given)
	if want, there := modelRecText(r); got != want || again != want || ok != there || right != there || given != r {
		t.Errorf("RecText of %s = %x, %v, and %x, %v the next time, want %x, %v", tellRec(r), got, ok, again, right, want, there)
	}
	expectOwnTexts(t, "RecText", []string{got, again}, given.Text, given.Thing.Value)
	return got, ok
}

// expectReadRec holds as well that what is read has that RecText.
func expectReadRec(t *testing.T, text string) (impl.Rec, bool) {
	t.Helper()
	given := strings.Clone(text)
	got, ok := impl.ReadRec(given)
	again, right := impl.ReadRec(given)
	if want, there := modelReadRec(text); got != want || again != want || ok != there || right != there || given != text {
		t.Errorf("ReadRec of %x = %s, %v, and %s, %v the next time, want %s, %v", text, tellRec(got), ok, tellRec(again), right, tellRec(want), there)
	}
	expectOwnTexts(t, "ReadRec", []string{got.Text, got.Thing.Value, again.Text, again.Thing.Value}, given)
	if back, good := impl.RecText(got); good != ok || ok && back != text {
		t.Errorf("of %x %s, %v is read, which has the text %x, %v", text, tellRec(got), ok, back, good)
	}
	return got, ok
}

func expectRecNotRead(t *testing.T, what, text string) {
	t.Helper()
	if r, ok := expectReadRec(t, text); r != (impl.Rec{}) || ok {
		t.Errorf("%s: of %x %s, %v is read", what, text, tellRec(r), ok)
	}
}

// expectRecComesBack asks that a right record is read from its text.
func expectRecComesBack(t *testing.T, r impl.Rec) string {
	t.Helper()
	text, ok := expectRecText(t, r)
	if !ok || text == "" || int(text[0]) != r.Kind {
		t.Fatalf("%s has the text %x, %v", tellRec(r), text, ok)
	}
	if read, there := expectReadRec(t, text); !there || read != r {
		t.Errorf("%s has the text %x, of which %s, %v is read", tellRec(r), text, tellRec(read), there)
	}
	return text
}

// expectEnter holds as well what every answer of Enter must meet, and that it stays when what was handed in is changed behind it.
func expectEnter(t *testing.T, b impl.Book, r impl.Rec) (impl.Book, bool) {
	t.Helper()
	given, stays := ownBook(b)
	givenRec := ownRec(r)
	got, ok := impl.Enter(given, givenRec)
	again, right := impl.Enter(given, givenRec)
	want, there := modelEnter(b, r)
	if !sameBook(got, want) || !sameBook(again, want) || ok != there || right != there {
		t.Errorf("Enter of %s into %s = %s, %v, and %s, %v the next time, want %s, %v", tellRec(r), tellBook(b), tellBook(got), ok, tellBook(again), right, tellBook(want), there)
	}
	if !stays() || givenRec != r {
		t.Errorf("Enter of %s into %s writes into an argument", tellRec(r), tellBook(b))
	}
	expectOwnBooks(t, "Enter", got, again, given, givenRec)
	spoil(given.Things[:cap(given.Things)], impl.Thing{Id: 78})
	if !sameBook(got, want) {
		t.Errorf("Enter of %s into %s is another one when the book that was handed in is changed", tellRec(r), tellBook(b))
	}
	if ok {
		expectEntered(t, b, r, got)
	} else if !isZeroBook(got) {
		t.Errorf("Enter of %s into %s is refused, with %s beside it", tellRec(r), tellBook(b), tellBook(got))
	}
	return got, ok
}

// expectEntered asks of a book behind a record what promise 21 says, without the model.
func expectEntered(t *testing.T, b impl.Book, r impl.Rec, got impl.Book) {
	t.Helper()
	text, ok := impl.RecText(r)
	if !ok || !impl.BookOk(b) || !impl.BookOk(got) || b.Count == mostCount {
		t.Errorf("%s is entered into %s, and makes %s", tellRec(r), tellBook(b), tellBook(got))
	}
	if got.Count != b.Count+1 || got.Chain != digestByLibrary(b.Chain+text) {
		t.Errorf("%s makes %s of %s: its Chain or Count does not go on", tellRec(r), tellBook(got), tellBook(b))
	}
	for _, x := range b.Things {
		now, there := impl.ThingOf(got, x.Id)
		if gone := r.Kind == impl.RecGone && r.Num == x.Id; there == gone {
			t.Errorf("%s makes %s of %s: %s is there, %v", tellRec(r), tellBook(got), tellBook(b), tellThing(x), there)
		}
		if there && (now.Kind != x.Kind || now.Value != x.Value || now.Signs != x.Signs || now.Wraps != x.Wraps || now.Next < x.Next) {
			t.Errorf("%s makes %s of %s", tellRec(r), tellThing(now), tellThing(x))
		}
		if there {
			expectStays(t, "entered", x, now)
		}
	}
	for _, x := range got.Things {
		if _, was := impl.ThingOf(b, x.Id); !was && (x.Id != b.Last+1 || got.Last != x.Id) {
			t.Errorf("%s makes %s of %s: a thing has come back", tellRec(r), tellBook(got), tellBook(b))
		}
	}
	if got.Last < b.Last {
		t.Errorf("%s makes %s of %s: an Id may be given again", tellRec(r), tellBook(got), tellBook(b))
	}
}

func expectNotEntered(t *testing.T, what string, b impl.Book, r impl.Rec) {
	t.Helper()
	if got, ok := expectEnter(t, b, r); ok || !isZeroBook(got) {
		t.Errorf("%s: Enter of %s into %s = %s, %v", what, tellRec(r), tellBook(b), tellBook(got), ok)
	}
}

func expectEnterAll(t *testing.T, b impl.Book, list []impl.Rec) (impl.Book, bool) {
	t.Helper()
	given, stays := ownBook(b)
	var own []impl.Rec
	for _, r := range list {
		own = append(own, ownRec(r))
	}
	recs, recsStay := guarded(own, triesRec(1))
	got, ok := impl.EnterAll(given, recs)
	again, right := impl.EnterAll(given, recs)
	want, there := modelEnterAll(b, list)
	if !sameBook(got, want) || !sameBook(again, want) || ok != there || right != there {
		t.Errorf("EnterAll of %d records into %s = %s, %v, and %s, %v the next time, want %s, %v", len(list), tellBook(b), tellBook(got), ok, tellBook(again), right, tellBook(want), there)
	}
	if !stays() || !recsStay() {
		t.Errorf("EnterAll of %d records into %s writes into an argument", len(list), tellBook(b))
	}
	expectOwnBooks(t, "EnterAll", got, again, given, recs...)
	spoil(given.Things[:cap(given.Things)], impl.Thing{Id: 78})
	spoil(recs[:cap(recs)], goneRec(7))
	if !sameBook(got, want) {
		t.Errorf("EnterAll of %d records into %s is another one when what was handed in is changed", len(list), tellBook(b))
	}
	if !ok && !isZeroBook(got) {
		t.Errorf("EnterAll of %d records is refused, with %s beside it", len(list), tellBook(got))
	}
	return got, ok
}

func expectChainOk(t *testing.T, b impl.Book, list []impl.Rec) bool {
	t.Helper()
	given, stays := ownBook(b)
	recs, recsStay := guarded(list, triesRec(1))
	got, again := impl.ChainOk(given, recs), impl.ChainOk(given, recs)
	if want := modelChainOk(b, list); got != want || again != want {
		t.Errorf("ChainOk of %s and %d records = %v, and %v the next time, want %v", tellBook(b), len(list), got, again, want)
	}
	if !stays() || !recsStay() {
		t.Errorf("ChainOk of %s and %d records writes into an argument", tellBook(b), len(list))
	}
	return got
}

func expectThingOf(t *testing.T, b impl.Book, id int) (impl.Thing, bool) {
	t.Helper()
	given, stays := ownBook(b)
	got, ok := impl.ThingOf(given, id)
	again, right := impl.ThingOf(given, id)
	if want, there := modelThingOf(b, id); got != want || again != want || ok != there || right != there || !stays() {
		t.Errorf("ThingOf %d of %s = %s, %v, and %s, %v the next time, want %s, %v", id, tellBook(b), tellThing(got), ok, tellThing(again), right, tellThing(want), there)
	}
	expectOwnTexts(t, "ThingOf", []string{got.Value, again.Value}, textsOfBook(given)...)
	return got, ok
}

// keptThings are of each Kind and with each of their flags, with the Ids 1 to 8.
func keptThings() []impl.Thing {
	key := func(word string) string { return digestByLibrary(word) }
	return []impl.Thing{
		{Id: 1, Kind: impl.KindTree, Hidden: true, Signs: true, Value: key("a"), Next: 3},
		{Id: 2, Kind: impl.KindKem, Hidden: true, Wraps: true, Value: key("b")},
		{Id: 3, Kind: impl.KindData, Value: "v"},
		{Id: 4, Kind: impl.KindData, Hidden: true, Fixed: true, Value: textOf(100)},
		{Id: 5, Kind: impl.KindTree, Fixed: true, Value: key("c"), Next: 16},
		{Id: 6, Kind: impl.KindKem, Fixed: true, Value: key("d")},
		{Id: 7, Kind: impl.KindData},
		{Id: 8, Kind: impl.KindTree, Signs: true, Value: key("e")},
	}
}

// bookWith has the first n of the things, entered by the model.
func bookWith(n int, more ...impl.Rec) impl.Book {
	var list []impl.Rec
	for _, x := range keptThings()[:n] {
		list = append(list, thingRec(x))
	}
	b, ok := modelEnterAll(modelBookNew(), append(list, more...))
	if !ok {
		panic("the book of a test is refused")
	}
	return b
}

func withTries(b impl.Book, tries int) impl.Book {
	b.Tries = tries
	return b
}

func withCount(b impl.Book, count int) impl.Book {
	b.Count = count
	return b
}

func withLast(b impl.Book, last int) impl.Book {
	b.Last = last
	return b
}

func withWord(b impl.Book, word string) impl.Book {
	b.Word = word
	return b
}

func withChain(b impl.Book, chain string) impl.Book {
	b.Chain = chain
	return b
}

func withThings(b impl.Book, things ...impl.Thing) impl.Book {
	b.Things = things
	return b
}

// withThingAt has another thing in one place.
func withThingAt(b impl.Book, at int, x impl.Thing) impl.Book {
	b.Things = slices.Clone(b.Things)
	b.Things[at] = x
	return b
}

// rightBooks are empty, emptied, half full, full and with gaps, and meet the limits.
func rightBooks() []impl.Book {
	emptied := bookWith(3, goneRec(2), goneRec(1), goneRec(3))
	gaps := bookWith(8, goneRec(1), goneRec(4), goneRec(8), triesRec(2))
	far := withThings(bookWith(0), withId(keptThings()[0], 1), withId(keptThings()[2], 500), withId(keptThings()[1], 999))
	return []impl.Book{
		modelBookNew(), bookWith(1), bookWith(4), bookWith(7), bookWith(8), emptied, gaps,
		bookWith(4, wordRec("word"), triesRec(1), triesRec(3)),
		withLast(far, 999), withLast(far, 1000), withLast(bookWith(0), 1000), withLast(bookWith(8), 500),
		withThings(withLast(bookWith(0), 1000), withId(keptThings()[3], 1000)),
		withCount(bookWith(4), 9999), withCount(bookWith(8), 0), withTries(bookWith(2), 3),
		{Word: strings.Repeat("\xff", 32), Tries: 1, Last: 7, Chain: strings.Repeat("\x01", 32), Count: 5000},
	}
}

func digestsThatAreNone() []string {
	return append(greatTexts(), "", "\x00", textOf(16), textOf(31), textOf(33), textOf(64), textOf(256+32))
}

// wrongThings are not right, of one with its Id.
func wrongThings(x impl.Thing) []impl.Thing {
	return []impl.Thing{
		{}, {Id: x.Id}, withId(x, 0), withId(x, -x.Id), withId(x, 1001), withId(x, math.MinInt), withKind(x, 0), withKind(x, 4), withKind(x, -1), withKind(x, x.Kind+256),
		withNext(x, -1), withNext(x, 17), withFlags(x, 12), withFlags(x, 15), withValue(x, textOf(101)), withValue(withKind(x, 1), textOf(31)), withValue(withKind(x, 2), textOf(33)),
	}
}

// wrongBooks have a field, or a thing, that is not right.
func wrongBooks() []impl.Book {
	var list []impl.Book
	for _, b := range []impl.Book{modelBookNew(), bookWith(4), bookWith(8)} {
		for _, text := range digestsThatAreNone() {
			list = append(list, withWord(b, text), withChain(b, text))
		}
		for _, n := range []int{math.MinInt, -1000, -1, 1 << 32, math.MaxInt} {
			list = append(list, withTries(b, n), withLast(b, n), withCount(b, n))
		}
		list = append(list, withTries(b, 4), withLast(b, 1001), withCount(b, 10001), withWord(withChain(b, ""), ""))
		for at, x := range b.Things {
			for _, wrong := range wrongThings(x) {
				list = append(list, withThingAt(b, at, wrong))
			}
			list = append(list, withLast(b, at), withThingAt(b, at, withId(x, 9)))
			if at > 0 {
				list = append(list, withThingAt(b, at, withId(x, at)), withThingAt(b, at, b.Things[at-1]), withThingAt(withThingAt(b, at, b.Things[at-1]), at-1, x))
			}
		}
	}
	nine := append(keptThings(), impl.Thing{Id: 9, Kind: impl.KindData})
	many := slices.Clone(nine)
	for id := 10; id <= 100; id++ {
		many = append(many, impl.Thing{Id: id, Kind: impl.KindData})
	}
	return append(list, impl.Book{}, withLast(withThings(modelBookNew(), nine...), 9), withLast(withThings(modelBookNew(), many...), 1000))
}

func recKinds() []int {
	return []int{math.MinInt, -257, -255, -4, -3, -2, -1, 0, 1, 2, 3, 4, 5, 6, 255, 256, 257, 258, 259, 260, 1<<32 + 1, math.MaxInt}
}

func recNums() []int {
	return []int{math.MinInt, -1 << 32, -1000, -1, 0, 1, 2, 3, 4, 5, 127, 128, 255, 256, 257, 999, 1000, 1001, 1002, 16384, mostNumber, mostNumber + 1, 1<<32 + 1, math.MaxInt}
}

func recTexts() []string {
	return []string{"", "\x00", "v", textOf(31), strings.Repeat("\x00", 32), textOf(32), strings.Repeat("\xff", 32), textOf(33), textOf(64), textOf(256 + 32)}
}

// recThings are right, not right, and zero but for one field.
func recThings() []impl.Thing {
	list := []impl.Thing{{}, {Id: 1}, {Id: -1}, {Kind: 1}, {Kind: 3}, {Hidden: true}, {Fixed: true}, {Signs: true}, {Wraps: true}, {Value: "v"}, {Value: textOf(32)}, {Next: 1}}
	for _, x := range keptThings() {
		list = append(list, x, withId(x, 1000), withId(x, 1001), withId(x, 0))
	}
	for _, x := range plainThings() {
		list = append(list, wrongThings(x)...)
	}
	return list
}

// anyRecs have each of the Kinds with each of the texts, numbers and things, those that are told and those that are not.
func anyRecs() []impl.Rec {
	var list []impl.Rec
	for _, kind := range recKinds() {
		for _, text := range recTexts() {
			for _, num := range recNums() {
				list = append(list, impl.Rec{Kind: kind, Text: text, Num: num})
			}
		}
		for _, x := range recThings() {
			list = append(list, impl.Rec{Kind: kind, Thing: x})
			for _, num := range []int{-1, 1, x.Id} {
				list = append(list, impl.Rec{Kind: kind, Num: num, Thing: x})
			}
			for _, text := range []string{"\x00", textOf(32), x.Value} {
				list = append(list, impl.Rec{Kind: kind, Text: text, Thing: x}, impl.Rec{Kind: kind, Text: text, Num: 1, Thing: x})
			}
		}
		for _, great := range greatTexts() {
			list = append(list, impl.Rec{Kind: kind, Text: great}, impl.Rec{Kind: kind, Thing: impl.Thing{Id: 1, Kind: 3, Value: great}})
		}
	}
	return list
}

// rightRecs are of each of the four Kinds, and meet the limits.
func rightRecs() []impl.Rec {
	list := []impl.Rec{wordRec(""), wordRec("word"), {Kind: 1, Text: strings.Repeat("\x00", 32)}, {Kind: 1, Text: strings.Repeat("\xff", 32)}}
	for tries := range mostTries + 1 {
		list = append(list, triesRec(tries))
	}
	for _, x := range append(rightThings(), keptThings()...) {
		list = append(list, thingRec(x))
	}
	for _, id := range []int{1, 2, 3, 4, 126, 127, 128, 129, 255, 256, 999, 1000} {
		list = append(list, goneRec(id))
	}
	return list
}

// fewRecs are right ones of each Kind, in few and in many bytes, for tests that change every byte of a text.
func fewRecs() []impl.Rec {
	list := []impl.Rec{wordRec("word"), {Kind: 1, Text: strings.Repeat("\x00", 32)}, triesRec(0), triesRec(3), goneRec(1), goneRec(127), goneRec(128), goneRec(1000)}
	things := keptThings()
	for _, x := range []impl.Thing{things[0], withId(things[1], 1000), things[2], withId(things[4], 128), things[6]} {
		list = append(list, thingRec(x))
	}
	return list
}

func TestLimitsOfBooks(t *testing.T) {
	if impl.RecWord != 1 || impl.RecTries != 2 || impl.RecThing != 3 || impl.RecGone != 4 || impl.MaxTries != mostTries || impl.MaxThings != mostThings {
		t.Error("a constant of books is another one")
	}
}

func TestBookNew(t *testing.T) {
	got, again := impl.BookNew(), impl.BookNew()
	empty := bytesOf(t, "e3b0c44298fc1c149afbf4c8996fb92427ae41e4649b934ca495991b7852b855")
	if want := (impl.Book{Word: empty, Chain: strings.Repeat("\x00", 32)}); !sameBook(got, want) || !sameBook(again, want) || !impl.BookOk(got) {
		t.Errorf("BookNew = %s, and %s the next time", tellBook(got), tellBook(again))
	}
	expectOwnBooks(t, "BookNew", got, again, modelBookNew())
	if !impl.ChainOk(got, nil) {
		t.Error("a new book has another Chain than that of no records")
	}
}

// The texts were written down by hand from the chapter.
func TestKnownRecTexts(t *testing.T) {
	ones := strings.Repeat("\x01", 32)
	for _, c := range []struct {
		rec  impl.Rec
		text string
	}{
		{impl.Rec{Kind: impl.RecWord, Text: ones}, "\x01" + ones},
		{impl.Rec{Kind: impl.RecTries}, "\x02\x00"},
		{impl.Rec{Kind: impl.RecTries, Num: 3}, "\x02\x03"},
		{impl.Rec{Kind: impl.RecThing, Thing: impl.Thing{Id: 1, Kind: impl.KindData, Value: "v"}}, "\x03\x01\x03\x00\x01v\x00"},
		{impl.Rec{Kind: impl.RecThing, Thing: impl.Thing{Id: 300, Kind: impl.KindTree, Hidden: true, Signs: true, Value: ones, Next: 16}}, "\x03\xac\x02\x02\x05\x20" + ones + "\x10"},
		{impl.Rec{Kind: impl.RecGone, Num: 1}, "\x04\x01"},
		{impl.Rec{Kind: impl.RecGone, Num: 127}, "\x04\x7f"},
		{impl.Rec{Kind: impl.RecGone, Num: 1000}, "\x04\xe8\x07"},
	} {
		if got, ok := expectRecText(t, c.rec); got != c.text || !ok {
			t.Errorf("%s has the text %x, %v, want %x", tellRec(c.rec), got, ok, c.text)
		}
		if got, ok := expectReadRec(t, c.text); got != c.rec || !ok {
			t.Errorf("of %x %s, %v is read, want %s", c.text, tellRec(got), ok, tellRec(c.rec))
		}
	}
}

// The digests were reckoned by another program.
func TestKnownBook(t *testing.T) {
	b := impl.BookNew()
	for i, c := range []struct {
		rec   impl.Rec
		chain string
		want  impl.Book
	}{
		{triesRec(1), "73518525ba0de1ed20d3bf724e5a3216e8831bd506251f53cda18bd49da20ffd", impl.Book{Tries: 1}},
		{thingRec(impl.Thing{Id: 1, Kind: impl.KindData, Value: "v"}), "8858890fb590fed73119cfd281c27ff81caaf634a06d4d164097c898a2c43737", impl.Book{Tries: 1, Things: []impl.Thing{{Id: 1, Kind: impl.KindData, Value: "v"}}, Last: 1}},
		{goneRec(1), "c0a5763d9281c9d11fce9133efecf3fd5fee7011efd6f27dfd7042cb030b5ea6", impl.Book{Tries: 1, Last: 1}},
		{wordRec("word"), "2c40208035c9a606bffe021f9c82f56284c52771fd6532a98038eed4fe3ed80e", impl.Book{Word: bytesOf(t, "98c1eb4ee93476743763878fcb96a25fbc9a175074d64004779ecb5242f645e6"), Last: 1}},
	} {
		want := c.want
		want.Chain, want.Count = bytesOf(t, c.chain), i+1
		if want.Word == "" {
			want.Word = b.Word
		}
		got, ok := expectEnter(t, b, c.rec)
		if !ok || !sameBook(got, want) {
			t.Fatalf("Enter of %s into %s = %s, %v, want %s", tellRec(c.rec), tellBook(b), tellBook(got), ok, tellBook(want))
		}
		b = got
	}
}

// Promise 21 of records: each that is right comes back from its text, and no other one has this text.
func TestRecordsOfEachSort(t *testing.T) {
	met := map[string]impl.Rec{}
	right, wrong := 0, 0
	for _, r := range anyRecs() {
		text, ok := expectRecText(t, r)
		if !ok {
			wrong++
			if text != "" {
				t.Errorf("%s is refused, with %x beside it", tellRec(r), text)
			}
			continue
		}
		other, there := met[text]
		if there && other != r {
			t.Errorf("%s and %s have one text", tellRec(r), tellRec(other))
		}
		if !there {
			right++
			expectRecComesBack(t, r)
		}
		met[text] = r
	}
	// Words 3, tries 4, things 16, and 12 of the numbers are Ids.
	if want := 3 + 4 + 16 + 12; right != want || wrong < 8000 {
		t.Errorf("of the records %d are right, want %d, and %d wrong", right, want, wrong)
	}
}

func TestRightRecordsComeBack(t *testing.T) {
	met := map[string]bool{}
	for _, r := range rightRecs() {
		text := expectRecComesBack(t, r)
		if met[text] {
			t.Errorf("another record has the text of %s", tellRec(r))
		}
		met[text] = true
	}
	for id := 1; id <= mostId; id++ {
		expectRecComesBack(t, goneRec(id))
		expectRecComesBack(t, thingRec(impl.Thing{Id: id, Kind: impl.KindData}))
	}
}

// What is not told must be zero, in each of its fields.
func TestRecordsThatTellTooMuch(t *testing.T) {
	for _, r := range rightRecs() {
		var list []impl.Rec
		for _, text := range []string{"\x00", "v", textOf(32)} {
			if more := r; r.Kind != impl.RecWord {
				more.Text = text
				list = append(list, more)
			}
		}
		for _, num := range []int{-1, 1, 2, 3, 1000, math.MinInt, math.MaxInt} {
			if more := r; r.Kind != impl.RecTries && r.Kind != impl.RecGone {
				more.Num = num
				list = append(list, more)
			}
		}
		for _, x := range recThings() {
			if more := r; r.Kind != impl.RecThing && x != (impl.Thing{}) {
				more.Thing = x
				list = append(list, more)
			}
		}
		for _, more := range list {
			if text, ok := expectRecText(t, more); text != "" || ok {
				t.Errorf("%s tells too much, and has the text %x, %v", tellRec(more), text, ok)
			}
		}
	}
}

func TestKindBytesInRecTexts(t *testing.T) {
	for _, r := range rightRecs() {
		body := expectRecComesBack(t, r)[1:]
		for kind := range 256 {
			got, ok := expectReadRec(t, modelByte(kind)+body)
			if kind == r.Kind && (got != r || !ok) || kind != r.Kind && got == r || (kind < 1 || kind > 4) && ok {
				t.Errorf("with Kind %d of %s %s, %v is read", kind, tellRec(r), tellRec(got), ok)
			}
		}
	}
}

func TestRecTextsThatAreCut(t *testing.T) {
	for _, r := range rightRecs() {
		text := expectRecComesBack(t, r)
		for size := range len(text) {
			expectRecNotRead(t, fmt.Sprint("cut at ", size), text[:size])
			for _, changed := range []string{text[size+1:], text[:size] + text[size+1:], text[:size] + text[size:size+1] + text[size:]} {
				if got, _ := expectReadRec(t, changed); got == r {
					t.Errorf("of %x, a text cut at %d, %s is read", changed, size, tellRec(got))
				}
			}
		}
		for b := range 256 {
			if got, ok := expectReadRec(t, text+modelByte(b)); ok && (got == r || r.Kind != impl.RecTries && r.Kind != impl.RecGone) {
				t.Errorf("with a byte %d behind it %s is read", b, tellRec(got))
			}
			if got, _ := expectReadRec(t, modelByte(b)+text); got == r {
				t.Errorf("with a byte %d ahead of it, %s is read", b, tellRec(got))
			}
		}
		for _, more := range []string{"\x00\x00", "abc", textOf(100), text, textOf(impl.MaxText)} {
			expectRecNotRead(t, fmt.Sprintf("with %d bytes behind it", len(more)), text+more)
		}
	}
}

func TestRecTextsWithOneByteTurned(t *testing.T) {
	for _, r := range fewRecs() {
		text := expectRecComesBack(t, r)
		for at := range len(text) {
			for mask := 1; mask < 256; mask++ {
				if got, ok := expectReadRec(t, turnedByte(text, at, byte(mask))); got == r {
					t.Errorf("with byte %d turned by %d, %s, %v is read", at, mask, tellRec(got), ok)
				}
			}
		}
	}
}

func TestNumbersInRecTexts(t *testing.T) {
	for num := range 2 * mostId {
		if got, ok := expectReadRec(t, "\x02"+modelVar(num)); ok != (num <= mostTries) || ok && got != triesRec(num) {
			t.Errorf("of tries %d %s, %v is read", num, tellRec(got), ok)
		}
		if got, ok := expectReadRec(t, "\x04"+modelVar(num)); ok != (num >= 1 && num <= mostId) || ok && got != goneRec(num) {
			t.Errorf("of the Id %d that is gone %s, %v is read", num, tellRec(got), ok)
		}
	}
	for _, num := range []int{0, 1, 3, 4, 127, 128, 1000, 1001, 1<<32 + 1} {
		for _, longer := range longerForms(num) {
			expectRecNotRead(t, "tries in more bytes", "\x02"+longer)
			expectRecNotRead(t, "an Id in more bytes", "\x04"+longer)
		}
	}
	for _, num := range []int{16384, 65537, mostNumber, mostNumber + 1, 1 << 32, 1<<32 + 1, math.MaxInt} {
		expectRecNotRead(t, "great tries", "\x02"+modelVar(num))
		expectRecNotRead(t, "a great Id", "\x04"+modelVar(num))
	}
	for _, broken := range []string{"", "\x80", "\xff", "\x83", "\xff\xff", strings.Repeat("\xff", 20)} {
		expectRecNotRead(t, "tries that do not end", "\x02"+broken)
		expectRecNotRead(t, "an Id that does not end", "\x04"+broken)
	}
	for _, x := range keptThings() {
		id, size, next := modelVar(x.Id), modelVar(len(x.Value)), modelVar(x.Next)
		head := thingTextOf(t, x)[len(id) : len(id)+2]
		for i := range longerForms(0) {
			expectRecNotRead(t, "an Id in more bytes", "\x03"+longerForms(x.Id)[i]+head+size+x.Value+next)
			expectRecNotRead(t, "a length in more bytes", "\x03"+id+head+longerForms(len(x.Value))[i]+x.Value+next)
			expectRecNotRead(t, "a Next in more bytes", "\x03"+id+head+size+x.Value+longerForms(x.Next)[i])
		}
	}
}

func TestTextsThatAreNoRecords(t *testing.T) {
	expectRecNotRead(t, "the empty text", "")
	for size := range 200 {
		for b := range 6 {
			expectReadRec(t, strings.Repeat(modelByte(b), size))
		}
		for _, kind := range []int{0, 5, 255} {
			expectRecNotRead(t, "no Kind", modelByte(kind)+textOf(size))
		}
		if r, ok := expectReadRec(t, "\x01"+textOf(size)); ok != (size == bookDigest) || ok && r.Text != textOf(size) {
			t.Errorf("of a word of %d bytes %s, %v is read", size, tellRec(r), ok)
		}
	}
	for _, great := range greatTexts() {
		for kind := range 6 {
			expectRecNotRead(t, "a great text", modelByte(kind)+great)
		}
	}
	for a := range 256 {
		expectRecNotRead(t, "one byte", modelByte(a))
		for b := range 256 {
			text := modelByte(a) + modelByte(b)
			if r, ok := impl.ReadRec(text); ok != (a == 2 && b <= 3 || a == 4 && b >= 1 && b <= 127) {
				t.Errorf("of %x %s, %v is read", text, tellRec(r), ok)
			}
		}
	}
	for _, x := range recThings() {
		if !impl.ThingOk(x) && x.Kind >= 0 && x.Kind < 256 {
			expectRecNotRead(t, "a thing that is not right", "\x03"+thingBytes(x))
		}
	}
}

func TestBooksThatAreRight(t *testing.T) {
	for _, b := range rightBooks() {
		if !expectBookOk(t, b) {
			t.Errorf("%s is not right", tellBook(b))
		}
		for tries := -2; tries <= 6; tries++ {
			if expectBookOk(t, withTries(b, tries)) != (tries >= 0 && tries <= mostTries) {
				t.Errorf("with Tries %d %s is right, or not, otherwise", tries, tellBook(b))
			}
		}
		least := 0
		if n := len(b.Things); n > 0 {
			least = b.Things[n-1].Id
		}
		for last := -2; last <= 1100; last++ {
			if got := impl.BookOk(withLast(b, last)); got != (last >= least && last <= mostId) {
				t.Errorf("with Last %d %s is right, %v", last, tellBook(b), got)
			}
		}
		for _, count := range []int{-1, 0, 1, 9999, 10000, 10001} {
			if expectBookOk(t, withCount(b, count)) != (count >= 0 && count <= mostCount) {
				t.Errorf("with Count %d %s is right, or not, otherwise", count, tellBook(b))
			}
		}
		for size := range 100 {
			if impl.BookOk(withWord(b, textOf(size))) != (size == bookDigest) || impl.BookOk(withChain(b, textOf(size))) != (size == bookDigest) {
				t.Errorf("with a Word or a Chain of %d bytes %s is right, or not, otherwise", size, tellBook(b))
			}
		}
	}
}

func TestBooksThatAreWrong(t *testing.T) {
	for _, b := range wrongBooks() {
		if expectBookOk(t, b) {
			t.Errorf("%s is right", tellBook(b))
		}
		for _, r := range []impl.Rec{wordRec("w"), triesRec(0), goneRec(1), thingRec(withId(keptThings()[6], b.Last+1)), thingRec(keptThings()[0])} {
			expectNotEntered(t, "a wrong book", b, r)
			if got, ok := expectEnterAll(t, b, []impl.Rec{r}); ok || !isZeroBook(got) {
				t.Errorf("EnterAll of %s into %s = %s, %v", tellRec(r), tellBook(b), tellBook(got), ok)
			}
		}
	}
}

// changesOf are a thing that is there, and what could come in its place, right and not right.
func changesOf(x impl.Thing) []impl.Thing {
	list := []impl.Thing{x, withValue(x, x.Value+"\x00"), withValue(x, ""), withId(x, 0), withId(x, 1001)}
	for flags := range flagsByKind {
		list = append(list, withFlags(x, flags))
		list = append(list, withFlags(withNext(x, x.Next+1), flags), withFlags(withNext(x, x.Next-1), flags))
	}
	for kind := -1; kind <= 4; kind++ {
		list = append(list, withKind(x, kind), withNext(withKind(withFlags(x, 0), kind), 0))
	}
	for next := -1; next <= 17; next++ {
		list = append(list, withNext(x, next))
	}
	if x.Value != "" {
		list = append(list, withValue(x, x.Value[1:]), withValue(x, turnedByte(x.Value, 0, 1)), withValue(x, turnedByte(x.Value, len(x.Value)-1, 128)))
	}
	return list
}

// recsFor are records of each sort that a book may be told, those that it takes and those that it refuses.
func recsFor(b impl.Book) []impl.Rec {
	list := []impl.Rec{{}, wordRec("word"), {Kind: 1, Text: b.Word}, {Kind: 1}, {Kind: 1, Text: textOf(31)}, {Kind: 1, Text: textOf(33)}, {Kind: 5}, {Kind: -1}, {Kind: 0, Num: 1}}
	for tries := -1; tries <= 5; tries++ {
		list = append(list, triesRec(tries))
	}
	for _, id := range []int{-1, 0, 1, 2, 3, 4, 5, 6, 7, 8, 9, 10, 499, 500, 501, 999, 1000, 1001, b.Last - 1, b.Last, b.Last + 1, b.Last + 2} {
		list = append(list, goneRec(id))
		for _, x := range keptThings() {
			list = append(list, thingRec(withId(x, id)))
		}
	}
	for _, x := range b.Things {
		for _, changed := range changesOf(x) {
			list = append(list, thingRec(changed))
		}
		list = append(list, impl.Rec{Kind: 3, Num: x.Id, Thing: x}, impl.Rec{Kind: 4, Num: x.Id, Thing: x}, impl.Rec{Kind: 4, Num: x.Id, Text: "v"})
	}
	return list
}

func TestEnterOfRecordsOfEachSort(t *testing.T) {
	entered, refused := map[int]int{}, map[int]int{}
	for _, b := range rightBooks() {
		for _, r := range recsFor(b) {
			if _, ok := expectEnter(t, b, r); ok {
				entered[r.Kind]++
			} else {
				refused[r.Kind]++
			}
		}
	}
	for kind := 1; kind <= 4; kind++ {
		if entered[kind] < 20 || refused[kind] < 20 {
			t.Errorf("of the records of Kind %d %d are entered, and %d refused", kind, entered[kind], refused[kind])
		}
	}
	for _, r := range anyRecs() {
		if b := bookWith(4); !modelRight(r) {
			expectNotEntered(t, "a record that is not right", b, r)
		}
	}
}

func modelRight(r impl.Rec) bool {
	_, ok := modelRecText(r)
	return ok
}

func TestWordsAndTriesInBooks(t *testing.T) {
	for _, b := range rightBooks() {
		for tries := range mostTries + 1 {
			got, ok := expectEnter(t, withTries(b, 3-tries), triesRec(tries))
			if !ok || got.Tries != tries || got.Word != b.Word {
				t.Errorf("of tries %d comes %s, %v", tries, tellBook(got), ok)
			}
			got, ok = expectEnter(t, withTries(b, tries), wordRec("another"))
			if !ok || got.Tries != 0 || got.Word != digestByLibrary("another") || !slices.Equal(got.Things, b.Things) || got.Last != b.Last {
				t.Errorf("of a word behind tries %d comes %s, %v", tries, tellBook(got), ok)
			}
		}
	}
}

// A new thing has the Id behind Last, whatever Ids are free below it.
func TestNewThingsInBooks(t *testing.T) {
	for _, b := range rightBooks() {
		for _, x := range append(keptThings(), plainThings()...) {
			for id := -2; id <= 1010; id++ {
				if _, there := modelThingOf(b, id); there {
					continue
				}
				got, ok := impl.Enter(b, thingRec(withId(x, id)))
				if want := id == b.Last+1 && id <= mostId && len(b.Things) < mostThings && b.Count < mostCount; ok != want {
					t.Fatalf("a new thing with the Id %d in %s: %v", id, tellBook(b), ok)
				}
				if ok && (len(got.Things) != len(b.Things)+1 || got.Things[len(b.Things)] != withId(x, id) || got.Last != id) {
					t.Errorf("a new thing with the Id %d makes %s", id, tellBook(got))
				}
			}
		}
		if len(b.Things) == mostThings {
			expectNotEntered(t, "there are MaxThings", b, thingRec(withId(keptThings()[2], b.Last+1)))
		}
	}
}

// In a full book a thing that is there may still be changed, and one that is gone makes room for a new one, with an Id of its own.
func TestFullBooks(t *testing.T) {
	b := bookWith(8)
	fresh := withId(keptThings()[2], 9)
	expectNotEntered(t, "full", b, thingRec(fresh))
	for _, x := range b.Things {
		if _, ok := expectEnter(t, b, thingRec(withHiddenFixed(x, true, true))); !ok {
			t.Errorf("%s is not changed in a full book", tellThing(x))
		}
		less, ok := expectEnter(t, b, goneRec(x.Id))
		if !ok || len(less.Things) != 7 {
			t.Errorf("%s does not go: %s, %v", tellThing(x), tellBook(less), ok)
		}
		expectNotEntered(t, "gone twice", less, goneRec(x.Id))
		expectNotEntered(t, "come back", less, thingRec(x))
		expectNotEntered(t, "come back with more leaves", less, thingRec(withNext(x, x.Next+1)))
		expectNotEntered(t, "beyond the next Id", less, thingRec(withId(x, 10)))
		if full, right := expectEnter(t, less, thingRec(fresh)); !right || len(full.Things) != 8 || full.Last != 9 {
			t.Errorf("a new thing makes %s, %v", tellBook(full), right)
		}
	}
}

// What was written down by hand: for each thing what it may not lose, and what it may.
func TestWhatThingsInBooksKeep(t *testing.T) {
	b := bookWith(8)
	for _, x := range b.Things {
		for _, from := range changePairs {
			was := withHiddenFixed(x, from[0], from[1])
			in := withThingAt(b, x.Id-1, was)
			for _, to := range changePairs {
				_, ok := expectEnter(t, in, thingRec(withHiddenFixed(x, to[0], to[1])))
				if lost := from[0] && !to[0] || from[1] && !to[1]; ok == lost {
					t.Errorf("%s comes in the place with Hidden and Fixed as %v: %v", tellThing(was), to, ok)
				}
			}
		}
		for next := -1; next <= 17; next++ {
			_, ok := expectEnter(t, b, thingRec(withNext(x, next)))
			if want := next == x.Next || x.Kind == impl.KindTree && next > x.Next && next <= impl.AllLeaves; ok != want {
				t.Errorf("%s comes with the Next %d: %v", tellThing(x), next, ok)
			}
		}
		switch x.Kind {
		case impl.KindTree:
			expectNotEntered(t, "Signs", b, thingRec(withSigns(x, !x.Signs)))
			expectNotEntered(t, "another Kind", b, thingRec(impl.Thing{Id: x.Id, Kind: impl.KindKem, Hidden: true, Fixed: true, Value: x.Value}))
		case impl.KindKem:
			wraps := x
			wraps.Wraps = !x.Wraps
			expectNotEntered(t, "Wraps", b, thingRec(wraps))
			expectNotEntered(t, "another Kind", b, thingRec(impl.Thing{Id: x.Id, Kind: impl.KindTree, Hidden: true, Fixed: true, Value: x.Value}))
			expectNotEntered(t, "another Kind", b, thingRec(impl.Thing{Id: x.Id, Kind: impl.KindData, Hidden: true, Fixed: true, Value: x.Value}))
		case impl.KindData:
			expectNotEntered(t, "another Value", b, thingRec(withHiddenFixed(withValue(x, "another"), true, true)))
		}
		if x.Kind != impl.KindData {
			expectNotEntered(t, "another Value", b, thingRec(withHiddenFixed(withValue(x, textOf(32)), true, true)))
		}
	}
}

func TestThingsThatAreGone(t *testing.T) {
	for _, b := range rightBooks() {
		for id := -2; id <= 1010; id++ {
			_, there := modelThingOf(b, id)
			got, ok := impl.Enter(b, goneRec(id))
			if want := there && b.Count < mostCount; ok != want || !ok && !isZeroBook(got) {
				t.Fatalf("that %d is gone makes %s of %s, %v", id, tellBook(got), tellBook(b), ok)
			}
			if _, still := impl.ThingOf(got, id); still || ok && (got.Last != b.Last || len(got.Things) != len(b.Things)-1) {
				t.Errorf("that %d is gone makes %s of %s", id, tellBook(got), tellBook(b))
			}
		}
	}
}

// A book takes 10000 records, and none behind them.
func TestBooksOfTheMostRecords(t *testing.T) {
	for _, b := range []impl.Book{withCount(bookWith(4), 9999), withCount(bookWith(8), 9999), withCount(modelBookNew(), 9999)} {
		for _, r := range recsFor(b) {
			if got, ok := expectEnter(t, b, r); ok && got.Count != mostCount {
				t.Errorf("%s makes %s", tellRec(r), tellBook(got))
			}
			expectNotEntered(t, "no room", withCount(b, mostCount), r)
		}
	}
	var list []impl.Rec
	for i := range mostCount {
		list = append(list, triesRec(i%4))
	}
	most, ok := impl.EnterAll(impl.BookNew(), list)
	if want, _ := modelEnterAll(modelBookNew(), list); !ok || !sameBook(most, want) || most.Count != mostCount || !impl.BookOk(most) || !impl.ChainOk(most, list) {
		t.Errorf("of 10000 records comes %s, %v", tellBook(most), ok)
	}
	if over, right := impl.EnterAll(impl.BookNew(), append(list, triesRec(0))); right || !isZeroBook(over) || impl.ChainOk(most, append(list, triesRec(0))) {
		t.Errorf("of 10001 records comes %s, %v", tellBook(over), right)
	}
	expectNotEntered(t, "full", most, triesRec(0))
}

// All Ids are given once; behind the last one no thing is new.
func TestBooksOfTheLastId(t *testing.T) {
	b := impl.BookNew()
	for id := 1; id <= mostId; id++ {
		x := withId(keptThings()[id%8], id)
		more, ok := impl.Enter(b, thingRec(x))
		if !ok || more.Last != id || len(more.Things) != 1 || more.Things[0] != x {
			t.Fatalf("the thing %d makes %s, %v", id, tellBook(more), ok)
		}
		if b, ok = impl.Enter(more, goneRec(id)); !ok || b.Last != id || len(b.Things) != 0 {
			t.Fatalf("without %d it is %s, %v", id, tellBook(b), ok)
		}
	}
	for _, id := range []int{-1, 0, 1, 2, 500, 999, 1000, 1001, 1002} {
		expectNotEntered(t, "behind the last Id", b, thingRec(withId(keptThings()[2], id)))
	}
	if got, ok := expectEnter(t, b, wordRec("w")); !ok || got.Last != mostId {
		t.Errorf("behind the last Id a word makes %s, %v", tellBook(got), ok)
	}
}

// someLives are lists of records that a new book takes.
func someLives() [][]impl.Rec {
	things := keptThings()
	all := []impl.Rec{wordRec("word")}
	for _, x := range things {
		all = append(all, thingRec(x))
	}
	signed := withNext(things[0], 6)
	all = append(all, triesRec(1), triesRec(2), triesRec(0), thingRec(signed), thingRec(withHiddenFixed(signed, true, true)), goneRec(2), goneRec(8), wordRec("another"), thingRec(withId(things[2], 9)), thingRec(withId(things[7], 10)), goneRec(1))
	return [][]impl.Rec{nil, {}, {wordRec("")}, {triesRec(3)}, {thingRec(things[0])}, {triesRec(0), triesRec(0), triesRec(0)}, all[:5], all}
}

// refusedBehind are records that a book refuses.
func refusedBehind(b impl.Book) []impl.Rec {
	return []impl.Rec{{}, {Kind: 5}, triesRec(4), goneRec(b.Last + 1), goneRec(0), thingRec(withId(keptThings()[2], b.Last+2)), {Kind: 1, Text: "word"}}
}

func TestEnterAll(t *testing.T) {
	for _, list := range someLives() {
		whole, ok := expectEnterAll(t, modelBookNew(), list)
		if !ok || whole.Count != len(list) || !impl.BookOk(whole) {
			t.Fatalf("of %d records comes %s, %v", len(list), tellBook(whole), ok)
		}
		for cut := range len(list) + 1 {
			first, right := expectEnterAll(t, modelBookNew(), list[:cut])
			both, good := expectEnterAll(t, first, list[cut:])
			if !right || !good || !sameBook(both, whole) {
				t.Errorf("in two parts, cut at %d, comes %s, at once %s", cut, tellBook(both), tellBook(whole))
			}
			for _, wrong := range refusedBehind(first) {
				for _, refused := range [][]impl.Rec{slices.Concat(list[:cut], []impl.Rec{wrong}), slices.Concat(list[:cut], []impl.Rec{wrong}, list[cut:])} {
					if got, there := expectEnterAll(t, modelBookNew(), refused); there || !isZeroBook(got) {
						t.Errorf("with %s at %d comes %s, %v", tellRec(wrong), cut, tellBook(got), there)
					}
				}
			}
		}
	}
}

// Of an empty list nothing is refused, so the book is as it is.
func TestEnterAllOfNothing(t *testing.T) {
	for _, b := range append(rightBooks(), wrongBooks()...) {
		for _, list := range [][]impl.Rec{nil, {}} {
			if got, ok := expectEnterAll(t, b, list); !ok || !sameBook(got, b) {
				t.Errorf("EnterAll of nothing into %s = %s, %v", tellBook(b), tellBook(got), ok)
			}
		}
	}
}

func TestEnterAllIsEnterOfEach(t *testing.T) {
	for _, b := range rightBooks() {
		for _, r := range recsFor(b) {
			one, ok := impl.Enter(b, r)
			if all, right := expectEnterAll(t, b, []impl.Rec{r}); right != ok || !sameBook(all, one) {
				t.Errorf("EnterAll of %s alone makes %s of %s, %v", tellRec(r), tellBook(all), tellBook(b), right)
			}
		}
	}
}

// Promise 21 of books: a Chain is that of its records, and of no other ones.
func TestChainsOfBooks(t *testing.T) {
	for _, list := range someLives() {
		b, ok := impl.EnterAll(impl.BookNew(), list)
		if !ok || !expectChainOk(t, b, list) {
			t.Fatalf("%s has another Chain than that of its %d records", tellBook(b), len(list))
		}
		for _, other := range []impl.Book{withCount(b, b.Count+1), withCount(b, b.Count-1), withCount(b, 10000), withChain(b, ""), withChain(b, b.Chain[1:]), withChain(b, b.Chain+"\x00"), withChain(b, turnedByte(b.Chain, 0, 1)), withChain(b, turnedByte(b.Chain, 31, 128)), withChain(b, digestByLibrary("another")), {}} {
			if expectChainOk(t, other, list) {
				t.Errorf("%s has the Chain of %d records", tellBook(other), len(list))
			}
		}
		// Nothing else of the book is asked for.
		for _, alike := range []impl.Book{withWord(b, ""), withTries(b, 9), withLast(b, -1), withThings(b), withThings(b, impl.Thing{Id: -1}), {Chain: b.Chain, Count: b.Count}} {
			if !expectChainOk(t, alike, list) {
				t.Errorf("%s has another Chain than that of %d records", tellBook(alike), len(list))
			}
		}
		for at, r := range list {
			left := slices.Concat(list[:at], list[at+1:])
			twice := slices.Concat(list[:at], []impl.Rec{r}, list[at:])
			for _, changed := range append([][]impl.Rec{left, twice, list[:at]}, turnedAt(list, at)...) {
				if expectChainOk(t, b, changed) {
					t.Errorf("%s has the Chain of records that are changed at %d", tellBook(b), at)
				}
			}
		}
	}
}

// turnedAt are the list with another record in one place, and with two records put in and turned about.
func turnedAt(list []impl.Rec, at int) [][]impl.Rec {
	var lists [][]impl.Rec
	for _, r := range []impl.Rec{{}, wordRec("turned"), triesRec(list[at].Num/2 + 1), goneRec(1), thingRec(withNext(list[at].Thing, list[at].Thing.Next+1)), thingRec(withHiddenFixed(list[at].Thing, true, !list[at].Thing.Fixed))} {
		if r != list[at] {
			lists = append(lists, slices.Concat(list[:at], []impl.Rec{r}, list[at+1:]), slices.Concat(list[:at], []impl.Rec{r}, list[at:]))
		}
	}
	if at > 0 && list[at-1] != list[at] {
		lists = append(lists, slices.Concat(list[:at-1], []impl.Rec{list[at], list[at-1]}, list[at+1:]))
	}
	return lists
}

// What EnterAll answers beside a false is no book of the list.
func TestChainsOfRecordsThatAreRefused(t *testing.T) {
	for _, list := range someLives() {
		b, _ := modelEnterAll(modelBookNew(), list)
		for _, wrong := range refusedBehind(b) {
			refused := append(slices.Clone(list), wrong)
			for _, book := range []impl.Book{b, {}, modelBookNew(), withCount(b, b.Count+1), withChain(impl.Book{}, strings.Repeat("\x00", 32))} {
				if expectChainOk(t, book, refused) {
					t.Errorf("%s has the Chain of records that are refused", tellBook(book))
				}
			}
		}
	}
	if expectChainOk(t, impl.Book{}, nil) || !expectChainOk(t, modelBookNew(), nil) {
		t.Error("of no records comes another Chain")
	}
}

func TestChainsOfUnlikeRecordsAreUnlike(t *testing.T) {
	met := map[string]string{}
	for _, b := range []impl.Book{modelBookNew(), bookWith(4), bookWith(8)} {
		for _, r := range recsFor(b) {
			got, ok := impl.Enter(b, r)
			if !ok {
				continue
			}
			from := b.Chain + modelText(r)
			if other, there := met[got.Chain]; there && other != from {
				t.Errorf("%s makes a Chain that was there", tellRec(r))
			}
			met[got.Chain] = from
		}
	}
}

func modelText(r impl.Rec) string {
	text, _ := modelRecText(r)
	return text
}

func TestThingOf(t *testing.T) {
	ids := append(idsAround(), 3, 4, 5, 6, 7, 8, 9, 10, 500, math.MinInt, math.MaxInt)
	for _, b := range append(rightBooks(), wrongBooks()...) {
		for _, id := range ids {
			expectThingOf(t, b, id)
		}
		for _, x := range b.Things {
			if got, ok := expectThingOf(t, b, x.Id); !ok || got.Id != x.Id || impl.BookOk(b) && got != x {
				t.Errorf("ThingOf %d of %s = %s, %v", x.Id, tellBook(b), tellThing(got), ok)
			}
		}
	}
	for _, b := range rightBooks() {
		for id := -3; id <= 1010; id++ {
			got, ok := impl.ThingOf(b, id)
			if want, there := modelThingOf(b, id); got != want || ok != there {
				t.Errorf("ThingOf %d of %s = %s, %v", id, tellBook(b), tellThing(got), ok)
			}
		}
	}
}

// drawRec is one that the book may take, or one that it refuses.
func drawRec(draw *rand.Rand, b impl.Book) impl.Rec {
	fresh := withId(drawThing(draw), b.Last+1)
	if len(b.Things) == 0 {
		return []impl.Rec{thingRec(fresh), triesRec(draw.IntN(5)), goneRec(draw.IntN(5))}[draw.IntN(3)]
	}
	x := b.Things[draw.IntN(len(b.Things))]
	switch draw.IntN(12) {
	case 0:
		return wordRec(drawText(draw))
	case 1:
		return triesRec(draw.IntN(6) - 1)
	case 2:
		return goneRec(x.Id)
	case 3:
		return goneRec(draw.IntN(b.Last + 2))
	case 4:
		return thingRec(withId(x, draw.IntN(b.Last+3)))
	case 5:
		return thingRec(drawAnyThing(draw))
	case 6:
		return thingRec(withFlags(x, draw.IntN(flagsByKind)))
	case 7, 8:
		return thingRec(withNext(x, draw.IntN(18)))
	case 9:
		return thingRec(withValue(x, drawBytes(draw, len(x.Value))))
	}
	return thingRec(fresh)
}

// drawnSeen is what was ever true of the things of a drawn book.
type drawnSeen struct {
	most  map[int]impl.Thing
	gone  map[int]bool
	given int
}

// expectSeen asks of a book that nothing has come back: no Id that was gone, no leaf that was given away, and nothing that was hidden or fixed.
func (seen *drawnSeen) expectSeen(t *testing.T, b impl.Book) {
	t.Helper()
	for id, was := range seen.most {
		now, there := impl.ThingOf(b, id)
		if there && seen.gone[id] {
			t.Fatalf("%s has come back", tellThing(now))
		}
		if !there {
			seen.gone[id] = true
			continue
		}
		if now.Next < was.Next || was.Hidden && !now.Hidden || was.Fixed && !now.Fixed || now.Value != was.Value || now.Kind != was.Kind || now.Signs != was.Signs {
			t.Fatalf("%s comes of %s", tellThing(now), tellThing(was))
		}
	}
	for _, x := range b.Things {
		if _, known := seen.most[x.Id]; !known && x.Id != seen.given+1 {
			t.Fatalf("%s is new behind the Id %d", tellThing(x), seen.given)
		}
		seen.most[x.Id] = x
		seen.given = max(seen.given, x.Id)
	}
}

// Promise 21 of leaves, in drawn lives of books.
func TestDrawnBooks(t *testing.T) {
	draw := rand.New(rand.NewPCG(21, 1))
	entered, refused, gone := 0, 0, 0
	for range 40 {
		b, list := impl.BookNew(), []impl.Rec{}
		seen := drawnSeen{most: map[int]impl.Thing{}, gone: map[int]bool{}}
		for range 120 {
			r := drawRec(draw, b)
			more, ok := expectEnter(t, b, r)
			if !ok {
				refused++
				continue
			}
			entered++
			b, list = more, append(list, r)
			seen.expectSeen(t, b)
			expectRecComesBack(t, r)
		}
		gone += len(seen.gone)
		if all, ok := expectEnterAll(t, modelBookNew(), list); !ok || !sameBook(all, b) || !expectChainOk(t, b, list) {
			t.Errorf("of its records comes %s, %v, want %s", tellBook(all), ok, tellBook(b))
		}
		if at := draw.IntN(len(list)); expectChainOk(t, b, slices.Concat(list[:at], list[at+1:])) {
			t.Errorf("without the record %d %s has the same Chain", at, tellBook(b))
		}
	}
	if entered < 1000 || refused < 1000 || gone < 100 {
		t.Errorf("of the drawn records %d are entered, and %d refused; %d things are gone", entered, refused, gone)
	}
}

func TestDrawnTextsOfRecords(t *testing.T) {
	draw := rand.New(rand.NewPCG(21, 2))
	read, refused := 0, 0
	for range 4000 {
		list := []impl.Rec{wordRec(drawText(draw)), triesRec(draw.IntN(4)), thingRec(drawThing(draw)), goneRec(1 + draw.IntN(1000))}
		text := drawChanged(draw, expectRecComesBack(t, list[draw.IntN(4)]))
		if _, ok := expectReadRec(t, text); ok {
			read++
		} else {
			refused++
		}
	}
	if read < 1000 || refused < 1000 {
		t.Errorf("of the drawn texts %d are read, and %d refused", read, refused)
	}
}

// All texts may be pieces of one, and two things of a book may have one Value.
func TestBooksWhoseTextsLieTogether(t *testing.T) {
	whole := strings.Clone(textOf(200))
	was := strings.Clone(whole)
	things := []impl.Thing{{Id: 1, Kind: impl.KindTree, Value: whole[3:35]}, {Id: 2, Kind: impl.KindKem, Value: whole[3:35]}, {Id: 3, Kind: impl.KindData, Value: whole[20:100]}}
	b := impl.Book{Word: whole[:32], Things: things, Last: 3, Chain: whole[:32]}
	for _, r := range []impl.Rec{{Kind: 1, Text: whole[3:35]}, triesRec(1), goneRec(2), thingRec(withNext(things[0], 1)), thingRec(impl.Thing{Id: 4, Kind: impl.KindData, Value: whole[3:35]})} {
		got, ok := impl.Enter(b, r)
		all, right := impl.EnterAll(b, []impl.Rec{r})
		same, good := impl.EnterAll(b, nil)
		if want, there := modelEnter(b, r); !ok || !right || !good || !there || !sameBook(got, want) || !sameBook(all, want) || !sameBook(same, b) {
			t.Errorf("%s makes %s of pieces of a text, %v", tellRec(r), tellBook(got), ok)
		}
		x, _ := impl.ThingOf(b, 1)
		text, _ := impl.RecText(r)
		read, _ := impl.ReadRec(text)
		expectOwnTexts(t, "pieces", slices.Concat(textsOfBook(got), textsOfBook(all), textsOfBook(same), []string{x.Value, read.Text, read.Thing.Value}), whole, text)
		if listsShare(got.Things, things) || listsShare(all.Things, things) || listsShare(same.Things, things) {
			t.Error("the Things of an answer are those of the argument")
		}
	}
	if whole != was {
		t.Error("an argument is written into")
	}
}

func TestBooksAmongMany(t *testing.T) {
	shared := bookWith(7)
	var callers sync.WaitGroup
	for caller := range 8 {
		callers.Go(func() {
			draw := rand.New(rand.NewPCG(21, uint64(100+caller)))
			b := shared
			for range 200 {
				r := drawRec(draw, b)
				got, ok := impl.Enter(b, r)
				want, there := modelEnter(b, r)
				if !sameBook(got, want) || ok != there {
					t.Error("a book among many is another one")
				}
				if ok {
					b = got
				}
				text, right := impl.RecText(r)
				if want, is := modelRecText(r); text != want || right != is {
					t.Error("a record among many has another text")
				}
			}
		})
	}
	callers.Wait()
}
