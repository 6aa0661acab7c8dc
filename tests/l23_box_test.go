package tests

import (
	"fmt"
	"math"
	"math/rand/v2"
	"slices"
	"strings"
	"sync"
	"testing"

	"loop.example/g00186/impl"
)

const (
	mostSessions = 3
	mostOpened   = 1000
	mostAsked    = 1000
	mostWord     = 20
	mostLeaves   = 16
)

// boxKey is the key of most boxes here, and boxWord the word that lets in.
var boxKey = digestByLibrary("key")

const boxWord = "word"

// What is said of calls, by their codes.
var saidOf = []string{"", "full", "session", "locked", "word", "out", "wrong", "none", "policy", "down"}

// What follows to modelRise was written down word by word from the chapter.
func modelBoxNew(key, word string) (impl.Box, bool) {
	if len(key) != 32 || len(word) > 20 {
		return impl.Box{}, false
	}
	acts, _ := modelBookActs(key, 0, wordRec(word))
	d, _ := modelActs(impl.Disk{}, acts)
	b, _ := modelEnter(modelBookNew(), wordRec(word))
	return impl.Box{Key: key, Up: true, Disk: d, Book: b}, true
}

func modelSessionsOk(list []impl.Session, opened int) bool {
	ok := len(list) <= 3
	for i, s := range list {
		ok = ok && s.Id >= 1 && s.Id <= opened && (i == 0 || list[i-1].Id < s.Id)
	}
	return ok
}

func modelLivesOk(list []impl.Live, book impl.Book) bool {
	ok := true
	for i, l := range list {
		x, there := modelThingOf(book, l.Id)
		ok = ok && there && x.Kind == 2 && l.Next >= 0 && l.Next <= x.Next && (i == 0 || list[i-1].Id < l.Id)
	}
	return ok
}

func modelBoxOk(b impl.Box) bool {
	switch {
	case len(b.Key) != 32, !modelOk(b.Disk), b.Opened < 0, b.Opened > 1000:
		return false
	case !b.Up:
		return len(b.Sessions) == 0 && len(b.Lives) == 0 && sameBook(b.Book, modelBookNew())
	case !modelSessionsOk(b.Sessions, b.Opened) || !modelLivesOk(b.Lives, b.Book):
		return false
	}
	book, acts, ok := modelMount(b.Key, b.Disk)
	return ok && len(acts) == 0 && sameBook(book, b.Book) && modelBookOk(b.Book)
}

func modelCallOk(c impl.Call) bool {
	return slices.Contains([]int{1, 2, 3, 4, 5, 6, 7, 8, 9, 10, 11, 12, 13}, c.Op) && c.Session >= 0 && c.Session <= 1000 && c.Thing >= 0 && c.Thing <= 1000 && c.Kind >= 0 && c.Kind <= 3 && len(c.Text) <= 1000
}

// modelSession is whether there is such a session, and whether it is In.
func modelSession(b impl.Box, id int) (there, in bool) {
	for _, s := range b.Sessions {
		if s.Id == id {
			there, in = true, in || s.In
		}
	}
	return there, in
}

func modelOutKey(b impl.Box) string { return digestByLibrary("out" + b.Key) }

func modelLeafOf(b impl.Box, id int) int {
	x, there := modelThingOf(b.Book, id)
	if !there || x.Kind != 2 {
		return -1
	}
	for _, l := range b.Lives {
		if l.Id == id {
			return l.Next
		}
	}
	return x.Next
}

// modelSay is what a call answers with a code above 0.
func modelSay(code int, list ...impl.Rec) ([]impl.Rec, int, string) { return list, code, saidOf[code] }

func modelPlan(b impl.Box, c impl.Call) ([]impl.Rec, int, string) {
	if !modelBoxOk(b) || !b.Up || !modelCallOk(c) || b.Book.Count == 10000 {
		return modelSay(9)
	}
	if c.Op == 1 {
		if len(b.Sessions) == 3 || b.Opened == 1000 {
			return modelSay(1)
		}
		return nil, 0, fmt.Sprint(b.Opened + 1)
	}
	there, in := modelSession(b, c.Session)
	if !there {
		return modelSay(2)
	}
	if c.Op == 13 {
		return nil, 0, ""
	}
	if c.Op == 2 {
		return modelWordPlan(b, c)
	}
	if !in {
		return modelSay(5)
	}
	switch c.Op {
	case 3:
		if len(c.Text) > 20 {
			return modelSay(6)
		}
		return []impl.Rec{wordRec(c.Text)}, 0, ""
	case 4:
		text := c.Text
		if c.Kind == 2 {
			text = fmt.Sprintf("%d %s", b.Book.Last+1, c.Text)
		}
		x, ok := modelDefaults(c.Kind, text)
		return modelNewPlan(b, c, x, ok)
	case 11:
		text, _ := modelUnwrapped(modelOutKey(b), c.Text)
		x, ok := modelReadThing(text)
		return modelNewPlan(b, c, modelRestored(x), ok)
	}
	return modelThingPlan(b, c)
}

func modelWordPlan(b impl.Box, c impl.Call) ([]impl.Rec, int, string) {
	switch {
	case b.Book.Tries == 3:
		return modelSay(3)
	case digestByLibrary(c.Text) != b.Book.Word:
		return modelSay(4, triesRec(b.Book.Tries+1))
	case b.Book.Tries != 0:
		return []impl.Rec{triesRec(0)}, 0, ""
	}
	return nil, 0, ""
}

func modelNewPlan(b impl.Box, c impl.Call, x impl.Thing, ok bool) ([]impl.Rec, int, string) {
	if !ok {
		return modelSay(6)
	}
	if len(b.Book.Things) == 8 || b.Book.Last == 1000 {
		return modelSay(1)
	}
	x.Id = b.Book.Last + 1
	if c.Hidden {
		x.Hidden = true
	}
	if c.Fixed {
		x.Fixed = true
	}
	return []impl.Rec{thingRec(x)}, 0, fmt.Sprint(x.Id)
}

func modelThingPlan(b impl.Box, c impl.Call) ([]impl.Rec, int, string) {
	x, there := modelThingOf(b.Book, c.Thing)
	if !there {
		return modelSay(7)
	}
	if do, ruled := map[int]int{5: 3, 6: 1, 8: 5, 10: 2, 12: 4}[c.Op]; ruled && !modelMay(x, do) {
		return modelSay(8)
	}
	switch c.Op {
	case 5:
		return modelSignPlan(x, modelLeafOf(b, x.Id), c.Text)
	case 6:
		return nil, 0, x.Value
	case 7:
		return nil, 0, modelPublicPart(x)
	case 8:
		changed, ok := modelChange(x, c.Hidden, c.Fixed)
		if !ok {
			return modelSay(8)
		}
		return []impl.Rec{thingRec(changed)}, 0, ""
	case 9:
		return []impl.Rec{goneRec(x.Id)}, 0, ""
	case 10:
		text, _ := modelThingText(x)
		wrapped, _ := modelWrapped(modelOutKey(b), text)
		return nil, 0, wrapped
	}
	pair, _ := modelPairOf(x.Value)
	found, ok := modelTakeOver(pair.Secret, c.Text)
	if !ok {
		return modelSay(6)
	}
	return nil, 0, found
}

func modelSignPlan(x impl.Thing, leaf int, text string) ([]impl.Rec, int, string) {
	if leaf == 16 {
		return modelSay(1)
	}
	h, _ := modelHyperSign(x.Value, leaf, text)
	answer, _ := modelHyperText(h)
	if leaf != x.Next {
		return nil, 0, answer
	}
	next := leaf + 3
	if next > 16 {
		next = 16
	}
	return []impl.Rec{thingRec(withNext(x, next))}, 0, answer
}

func modelCarry(b impl.Box, c impl.Call, code, leaf int) impl.Box {
	if code != 0 {
		return b
	}
	var sessions []impl.Session
	for _, s := range b.Sessions {
		mine := s.Id == c.Session
		if mine && c.Op == 2 {
			s.In = true
		}
		if !mine || c.Op != 13 {
			sessions = append(sessions, s)
		}
	}
	if c.Op == 1 {
		b.Opened++
		sessions = append(sessions, impl.Session{Id: b.Opened})
	}
	b.Sessions = sessions
	x, there := modelThingOf(b.Book, c.Thing)
	given := c.Op == 5 && there && x.Kind == 2 && leaf > -1 && leaf < x.Next
	var lives []impl.Live
	for _, l := range b.Lives {
		if l.Id != c.Thing || c.Op != 9 && !given {
			lives = append(lives, l)
		}
	}
	if given {
		lives = append(lives, impl.Live{Id: c.Thing, Next: leaf + 1})
		slices.SortStableFunc(lives, func(l, m impl.Live) int { return l.Id - m.Id })
	}
	b.Lives = lives
	return b
}

func modelFallen(b impl.Box) impl.Box {
	return impl.Box{Key: b.Key, Disk: b.Disk, Book: modelBookNew()}
}

func modelRise(b impl.Box) (impl.Box, bool) {
	if b.Up || !modelBoxOk(b) {
		return impl.Box{}, false
	}
	book, acts, ok := modelMount(b.Key, b.Disk)
	if !ok {
		return impl.Box{}, false
	}
	d, done := modelActs(b.Disk, acts)
	// The chapter does not say what comes where its acts can't be done: a box that is not right would.
	if done < len(acts) {
		return impl.Box{}, false
	}
	b.Up, b.Disk, b.Book = true, d, book
	return b, true
}

// modelCall has a call made wholly: its records are on the disk and in the book.
func modelCall(b impl.Box, c impl.Call) impl.Box {
	list, code, _ := modelPlan(b, c)
	leaf := modelLeafOf(b, c.Thing)
	for _, r := range list {
		acts, _ := modelBookActs(b.Key, b.Book.Count, r)
		b.Disk, _ = modelActs(b.Disk, acts)
		b.Book, _ = modelEnter(b.Book, r)
	}
	return modelCarry(b, c, code, leaf)
}

func sameBox(a, b impl.Box) bool {
	return a.Key == b.Key && a.Up == b.Up && sameDisk(a.Disk, b.Disk) && sameBook(a.Book, b.Book) && slices.Equal(a.Sessions, b.Sessions) && slices.Equal(a.Lives, b.Lives) && a.Opened == b.Opened
}

func isZeroBox(b impl.Box) bool { return sameBox(b, impl.Box{}) }

func tellBox(b impl.Box) string {
	return fmt.Sprintf("the box {Key of %s, Up %v, Disk %s, %s, Sessions %v, Lives %v, Opened %d}", tellSeed(b.Key), b.Up, tell(b.Disk), tellBook(b.Book), b.Sessions, b.Lives, b.Opened)
}

func tellCall(c impl.Call) string {
	return fmt.Sprintf("{Op %d, Session %d, Thing %d, Kind %d, Text of %s, Hidden %v, Fixed %v}", c.Op, c.Session, c.Thing, c.Kind, tellSeed(c.Text), c.Hidden, c.Fixed)
}

// ownBox is one like it that shares no memory with it, and has spare room; and whether nothing was written into it since.
func ownBox(b impl.Box) (impl.Box, func() bool) {
	given := b
	given.Key = strings.Clone(b.Key)
	disk, diskStays := ownDisk(b.Disk)
	book, bookStays := ownBook(b.Book)
	sessions, sessionsStay := guarded(b.Sessions, impl.Session{Id: 7, In: true})
	lives, livesStay := guarded(b.Lives, impl.Live{Id: 7, Next: 7})
	given.Disk, given.Book, given.Sessions, given.Lives = disk, book, sessions, lives
	return given, func() bool {
		return diskStays() && bookStays() && sessionsStay() && livesStay() && sameBox(given, b)
	}
}

func textsOfBox(b impl.Box) []string {
	return slices.Concat([]string{b.Key}, textsOf(b.Disk), textsOfBook(b.Book))
}

func spoilBox(b impl.Box) {
	spoil(b.Disk.Files[:cap(b.Disk.Files)], impl.File{Name: "spoilt"})
	spoil(b.Book.Things[:cap(b.Book.Things)], impl.Thing{Id: 78})
	spoil(b.Sessions[:cap(b.Sessions)], impl.Session{Id: 78})
	spoil(b.Lives[:cap(b.Lives)], impl.Live{Id: 78})
}

func boxesShare(a, b impl.Box) bool {
	return listsShare(a.Disk.Files, b.Disk.Files) || listsShare(a.Book.Things, b.Book.Things) || listsShare(a.Sessions, b.Sessions) || listsShare(a.Lives, b.Lives)
}

// expectBox holds two answers against the one that is wanted, and that they share nothing with each other, nor with what was given; which is spoilt then.
func expectBox(t *testing.T, what string, got, again, want, given impl.Box, texts ...string) {
	t.Helper()
	if !sameBox(got, want) || !sameBox(again, want) {
		t.Errorf("%s = %s, and %s the next time, want %s", what, tellBox(got), tellBox(again), tellBox(want))
	}
	if boxesShare(got, again) || boxesShare(got, given) || boxesShare(again, given) {
		t.Errorf("%s: a list of the answer is that of another box", what)
	}
	// The name of the book's file may be one constant.
	names := func(s string) bool { return s == "book" || s == "book+" }
	mine := slices.DeleteFunc(append(textsOfBox(got), textsOfBox(again)...), names)
	expectOwnTexts(t, what, mine, append(texts, textsOfBox(given)...)...)
	spoilBox(given)
	spoilBox(again)
	if !sameBox(got, want) {
		t.Errorf("%s is another one when what was handed in, or another answer, is changed", what)
	}
}

func expectBoxNew(t *testing.T, key, word string) (impl.Box, bool) {
	t.Helper()
	givenKey, givenWord := strings.Clone(key), strings.Clone(word)
	got, ok := impl.BoxNew(givenKey, givenWord)
	again, right := impl.BoxNew(givenKey, givenWord)
	want, there := modelBoxNew(key, word)
	what := fmt.Sprintf("BoxNew of the key %s and the word %q", tellSeed(key), word)
	if ok != there || right != there || givenKey != key || givenWord != word {
		t.Errorf("%s is %v, and %v the next time, want %v; or it writes into an argument", what, ok, right, there)
	}
	expectBox(t, what, got, again, want, impl.Box{}, givenKey, givenWord)
	return got, ok
}

func expectBoxOk(t *testing.T, b impl.Box) bool {
	t.Helper()
	given, stays := ownBox(b)
	got, again := impl.BoxOk(given), impl.BoxOk(given)
	if want := modelBoxOk(b); got != want || again != want || !stays() {
		t.Errorf("BoxOk of %s = %v, and %v the next time, want %v", tellBox(b), got, again, want)
	}
	return got
}

func expectCallOk(t *testing.T, c impl.Call) bool {
	t.Helper()
	given := c
	given.Text = strings.Clone(c.Text)
	got, again := impl.CallOk(given), impl.CallOk(given)
	if want := modelCallOk(c); got != want || again != want || given != c {
		t.Errorf("CallOk of %s = %v, and %v the next time, want %v", tellCall(c), got, again, want)
	}
	return got
}

// expectPlan holds as well, without the model, that what is refused enters nothing but tries.
func expectPlan(t *testing.T, b impl.Box, c impl.Call) ([]impl.Rec, int, string) {
	t.Helper()
	given, stays := ownBox(b)
	call := c
	call.Text = strings.Clone(c.Text)
	list, code, answer := impl.Plan(given, call)
	more, again, said := impl.Plan(given, call)
	want, wantCode, wantAnswer := modelPlan(b, c)
	if !slices.Equal(list, want) || !slices.Equal(more, want) || code != wantCode || again != wantCode || answer != wantAnswer || said != wantAnswer {
		t.Errorf("Plan of %s in %s = %s, %d, %s, and %s, %d, %s the next time, want %s, %d, %s", tellCall(c), tellBox(b), tellRecs(list), code, tellSeed(answer), tellRecs(more), again, tellSeed(said), tellRecs(want), wantCode, tellSeed(wantAnswer))
	}
	if !stays() || call != c {
		t.Errorf("Plan of %s writes into an argument", tellCall(c))
	}
	texts := []string{}
	for _, r := range slices.Concat(list, more) {
		texts = append(texts, r.Text, r.Thing.Value)
	}
	// The words of what is refused may be constants, and so may figures.
	if code == 0 && len(answer) > 4 {
		texts = append(texts, answer, said)
	}
	expectOwnTexts(t, "Plan", texts, append(textsOfBox(given), call.Text)...)
	if listsShare(list, more) {
		t.Error("Plan: two answers are one list")
	}
	spoilBox(given)
	spoil(more, goneRec(7))
	if !slices.Equal(list, want) || answer != wantAnswer {
		t.Errorf("Plan of %s is another one when what was handed in, or another answer, is changed", tellCall(c))
	}
	expectRefused(t, b, c, list, code, answer)
	return list, code, answer
}

// expectRefused is promise 23 of one plan.
func expectRefused(t *testing.T, b impl.Box, c impl.Call, list []impl.Rec, code int, answer string) {
	t.Helper()
	if code < 0 || code > 9 || code > 0 && answer != saidOf[code] {
		t.Errorf("%s has the code %d and the answer %q", tellCall(c), code, answer)
	}
	tries := code == 4 && len(list) == 1 && list[0] == triesRec(b.Book.Tries+1)
	if code > 0 && len(list) > 0 && !tries {
		t.Errorf("%s is refused with the code %d, and enters %s", tellCall(c), code, tellRecs(list))
	}
	if _, in := modelSession(b, c.Session); !in && c.Op > 2 && c.Op < 13 && (code == 0 || len(list) > 0) {
		t.Errorf("%s of a session that is not In has the code %d and enters %s", tellCall(c), code, tellRecs(list))
	}
	if _, ok := impl.EnterAll(b.Book, list); !ok {
		t.Errorf("%s would enter %s, which the book refuses", tellCall(c), tellRecs(list))
	}
}

// expectCode is of a plan that is wanted by its code alone.
func expectCode(t *testing.T, what string, b impl.Box, c impl.Call, want int) {
	t.Helper()
	if list, code, answer := expectPlan(t, b, c); code != want || want > 0 && answer != saidOf[want] {
		t.Errorf("%s: Plan of %s = %s, %d, %s, want the code %d", what, tellCall(c), tellRecs(list), code, tellSeed(answer), want)
	}
}

func expectLeafOf(t *testing.T, b impl.Box, id int) int {
	t.Helper()
	given, stays := ownBox(b)
	got, again := impl.LeafOf(given, id), impl.LeafOf(given, id)
	if want := modelLeafOf(b, id); got != want || again != want || !stays() {
		t.Errorf("LeafOf %d of %s = %d, and %d the next time, want %d", id, tellBox(b), got, again, want)
	}
	return got
}

func expectCarry(t *testing.T, b impl.Box, c impl.Call, code, leaf int) impl.Box {
	t.Helper()
	given, stays := ownBox(b)
	call := c
	call.Text = strings.Clone(c.Text)
	got, again := impl.Carry(given, call, code, leaf), impl.Carry(given, call, code, leaf)
	if !stays() || call != c {
		t.Errorf("Carry of %s writes into an argument", tellCall(c))
	}
	expectBox(t, fmt.Sprintf("Carry of %s with the code %d and the leaf %d in %s", tellCall(c), code, leaf, tellBox(b)), got, again, modelCarry(b, c, code, leaf), given, call.Text)
	return got
}

func expectFallen(t *testing.T, b impl.Box) impl.Box {
	t.Helper()
	given, stays := ownBox(b)
	got, again := impl.Fallen(given), impl.Fallen(given)
	if !stays() {
		t.Errorf("Fallen of %s writes into an argument", tellBox(b))
	}
	expectBox(t, "Fallen of "+tellBox(b), got, again, modelFallen(b), given)
	return got
}

// expectRise holds as well that what has risen is right.
func expectRise(t *testing.T, b impl.Box) (impl.Box, bool) {
	t.Helper()
	given, stays := ownBox(b)
	got, ok := impl.Rise(given)
	again, right := impl.Rise(given)
	want, there := modelRise(b)
	if !stays() || ok != there || right != there {
		t.Errorf("Rise of %s is %v, and %v the next time, want %v; or it writes into an argument", tellBox(b), ok, right, there)
	}
	expectBox(t, "Rise of "+tellBox(b), got, again, want, given)
	if ok && (!got.Up || !impl.BoxOk(got)) || !ok && !isZeroBox(got) {
		t.Errorf("Rise of %s = %s, %v", tellBox(b), tellBox(got), ok)
	}
	return got, ok
}

// expectCall has a call made wholly, by the program's own functions, and holds that the box stays right.
func expectCall(t *testing.T, b impl.Box, c impl.Call) (impl.Box, int, string) {
	t.Helper()
	list, code, answer := expectPlan(t, b, c)
	leaf := expectLeafOf(t, b, c.Thing)
	behind := b
	for _, r := range list {
		behind = enteredOn(t, behind, r)
	}
	behind = expectCarry(t, behind, c, code, leaf)
	if !expectBoxOk(t, behind) {
		t.Errorf("behind %s, with the code %d, %s is not right", tellCall(c), code, tellBox(behind))
	}
	if code > 0 && (!slices.Equal(behind.Sessions, b.Sessions) || !slices.Equal(behind.Lives, b.Lives) || !slices.Equal(behind.Book.Things, b.Book.Things) || behind.Book.Word != b.Book.Word || behind.Book.Count > b.Book.Count && code != 4) {
		t.Errorf("%s is refused with the code %d, and makes %s of %s", tellCall(c), code, tellBox(behind), tellBox(b))
	}
	return behind, code, answer
}

// enteredOn is the box with a record more in its book and on its disk.
func enteredOn(t *testing.T, b impl.Box, r impl.Rec) impl.Box {
	t.Helper()
	acts, written := impl.BookActs(b.Key, b.Book.Count, r)
	book, entered := impl.Enter(b.Book, r)
	disk, done := impl.DoActs(b.Disk, acts)
	if !written || !entered || done != len(acts) {
		t.Fatalf("%s is not entered into %s", tellRec(r), tellBox(b))
	}
	b.Book, b.Disk = book, disk
	return b
}

func openCall() impl.Call { return impl.Call{Op: 1} }

func wordCall(session int, word string) impl.Call {
	return impl.Call{Op: 2, Session: session, Text: word}
}

func setCall(session int, word string) impl.Call {
	return impl.Call{Op: 3, Session: session, Text: word}
}

func makeCall(session, kind int, text string) impl.Call {
	return impl.Call{Op: 4, Session: session, Kind: kind, Text: text}
}

// askCall is one about a thing.
func askCall(op, session, thing int, text string) impl.Call {
	return impl.Call{Op: op, Session: session, Thing: thing, Text: text}
}

func signCall(session, thing int, text string) impl.Call { return askCall(5, session, thing, text) }

func inCall(session int, text string) impl.Call {
	return impl.Call{Op: 11, Session: session, Text: text}
}

func closeCall(session int) impl.Call { return impl.Call{Op: 13, Session: session} }

// toldAs has Hidden and Fixed told.
func toldAs(c impl.Call, hidden, fixed bool) impl.Call {
	c.Hidden, c.Fixed = hidden, fixed
	return c
}

// boxOf is a box whose book has these records, with the session 1, which is In, and the session 2, which is not.
func boxOf(list ...impl.Rec) impl.Box {
	book, ok := modelEnterAll(modelBookNew(), list)
	if !ok {
		panic("the box of a test is refused")
	}
	return impl.Box{Key: boxKey, Up: true, Disk: diskOf(keptFile("book", bookFile(boxKey, list))), Book: book, Sessions: []impl.Session{{Id: 1, In: true}, {Id: 2}}, Opened: 2}
}

// thingsBox has the first n of the things that are kept in these tests, and the word.
func thingsBox(n int, more ...impl.Rec) impl.Box {
	list := []impl.Rec{wordRec(boxWord)}
	for _, x := range keptThings()[:n] {
		list = append(list, thingRec(x))
	}
	return boxOf(append(list, more...)...)
}

// treeBox has one tree, from which leaves up to next are given away.
func treeBox(next int) impl.Box {
	return boxOf(wordRec(boxWord), thingRec(withNext(keptThings()[0], next)))
}

func withSessions(b impl.Box, opened int, list ...impl.Session) impl.Box {
	b.Sessions, b.Opened = list, opened
	return b
}

func withLives(b impl.Box, list ...impl.Live) impl.Box {
	b.Lives = list
	return b
}

func withKey(b impl.Box, key string) impl.Box {
	b.Key = key
	return b
}

func withDisk(b impl.Box, d impl.Disk) impl.Box {
	b.Disk = d
	return b
}

func withBook(b impl.Box, book impl.Book) impl.Box {
	b.Book = book
	return b
}

func withUp(b impl.Box, up bool) impl.Box {
	b.Up = up
	return b
}

// withBehind has bytes behind the book on the disk.
func withBehind(b impl.Box, bytes string) impl.Box {
	file, _ := impl.FileAt(b.Disk, "book")
	return withDisk(b, diskOf(keptFile("book", file+bytes)))
}

func newBox() impl.Box {
	b, _ := modelBoxNew(boxKey, boxWord)
	return b
}

// behindCalls is what comes of a new box by calls.
func behindCalls(calls ...impl.Call) impl.Box {
	b := newBox()
	for _, c := range calls {
		b = modelCall(b, c)
	}
	return b
}

// manyCalls are of each Op, and one is refused for each of the codes but that of a box that is down.
func manyCalls() []impl.Call {
	wrapped, _ := modelWrapped(modelOutKey(newBox()), "\x05\x03\x00\x04more\x00")
	return []impl.Call{
		openCall(), wordCall(1, "other"), makeCall(1, 3, "early"), wordCall(1, boxWord), openCall(), wordCall(2, "wrong"), openCall(), openCall(), closeCall(3), closeCall(3),
		makeCall(1, 2, "seed"), makeCall(1, 1, "lock"), makeCall(1, 3, "data"), toldAs(makeCall(1, 3, "more"), true, true), makeCall(1, 0, "none"),
		signCall(1, 1, "first"), signCall(1, 1, "second"), askCall(6, 1, 3, ""), askCall(6, 1, 1, ""), askCall(7, 1, 1, ""), askCall(7, 1, 2, ""), askCall(7, 1, 9, ""),
		askCall(10, 1, 2, ""), askCall(10, 1, 1, ""), inCall(1, wrapped), inCall(1, "none"), makeCall(1, 2, "seed"), signCall(1, 6, "first"),
		toldAs(askCall(8, 1, 3, ""), true, false), askCall(8, 1, 3, ""), askCall(12, 1, 2, textOf(768)), askCall(12, 1, 2, "short"), askCall(12, 1, 1, textOf(768)),
		signCall(1, 1, "third"), signCall(1, 1, "fourth"), askCall(9, 1, 6, ""), askCall(9, 1, 6, ""), setCall(1, "another"), setCall(1, textOf(21)), wordCall(2, "another"), closeCall(1), askCall(6, 1, 3, ""), askCall(6, 2, 5, ""),
	}
}

// namedBox is a box with what is said of it, and whether it is right.
type namedBox struct {
	what  string
	box   impl.Box
	right bool
}

// upBoxes are right ones that are up, of each sort.
func upBoxes() []impl.Box {
	list := []impl.Box{newBox(), behindCalls(openCall()), behindCalls(openCall(), wordCall(1, boxWord)), behindCalls(openCall(), wordCall(1, "wrong")), behindCalls(openCall(), wordCall(1, "a"), wordCall(1, "b"), wordCall(1, "c"))}
	empty := withBook(withDisk(newBox(), impl.Disk{}), modelBookNew())
	beside := thingsBox(7)
	beside.Disk = diskWith(beside.Disk.Files[0], append(otherFiles(), impl.File{Name: "book+", Text: "rest", Kept: 2})...)
	torn := thingsBox(2)
	torn.Disk.Files[0].Kept = 7
	return append(list, empty, beside, torn, behindCalls(manyCalls()...), behindCalls(manyCalls()[:20]...), thingsBox(0), thingsBox(8),
		withLives(thingsBox(8), impl.Live{Id: 1, Next: 2}, impl.Live{Id: 5, Next: 16}, impl.Live{Id: 8}),
		thingsBox(8, goneRec(2), goneRec(8), triesRec(2)), withSessions(thingsBox(3), 1000, impl.Session{Id: 1}, impl.Session{Id: 500, In: true}, impl.Session{Id: 1000}),
		withSessions(thingsBox(7), 0), withSessions(treeBox(16), 1000), withLives(treeBox(3), impl.Live{Id: 1, Next: 3}))
}

func fallenBoxes() []impl.Box {
	var list []impl.Box
	for _, b := range upBoxes() {
		list = append(list, modelFallen(b))
	}
	torn := modelFallen(thingsBox(4))
	refused := withBehind(modelFallen(newBox()), frameOf(boxKey, 2, "\x04\x01"))
	opened := modelFallen(newBox())
	opened.Opened = 7
	most := opened
	most.Opened = 1000
	return append(list, withBehind(torn, "x"), withBehind(torn, frameOf(boxKey, 6, "\x02\x01")[:20]), refused, withKey(torn, digestByLibrary("other")), withDisk(torn, impl.Disk{}), withDisk(torn, diskOf(filesUpTo(30)...)), opened, most)
}

// spoiltAlike are boxes of which one field is met exactly, or passed by one, whether they are up or not.
func spoiltAlike(b impl.Box) []namedBox {
	var list []namedBox
	add := func(what string, right bool, box impl.Box) {
		list = append(list, namedBox{what: what, box: box, right: right})
	}
	for _, size := range []int{0, 1, 31, 33, 64, 256 + 32} {
		add(fmt.Sprintf("a key of %d bytes", size), false, withKey(b, textOf(size)))
	}
	add("a key cut", false, withKey(b, b.Key[:31]))
	add("a key with a byte behind it", false, withKey(b, b.Key+"\x00"))
	for _, d := range wrongDisks() {
		add("a wrong disk", false, withDisk(b, d))
	}
	spare := manyFiles(impl.MaxFiles - len(b.Disk.Files))
	add("a disk with the most files", true, withDisk(b, byName(append(slices.Clone(b.Disk.Files), spare...))))
	add("a disk with one file too many", false, withDisk(b, byName(append(slices.Clone(b.Disk.Files), append(spare, keptFile("zz", ""))...))))
	for i, f := range b.Disk.Files {
		for _, kept := range []int{-1, len(f.Text) + 1, math.MinInt, math.MaxInt} {
			add("a file kept beyond its end", false, withDisk(b, withFileAt(b.Disk, i, impl.File{Name: f.Name, Text: f.Text, Kept: kept})))
		}
		add("a file that is kept", true, withDisk(b, withFileAt(b.Disk, i, keptFile(f.Name, f.Text))))
		add("a file that is not kept", true, withDisk(b, withFileAt(b.Disk, i, impl.File{Name: f.Name, Text: f.Text})))
		add("a file without a name", false, withDisk(b, withFileAt(b.Disk, i, keptFile("", f.Text))))
	}
	for _, opened := range []int{math.MinInt, -1, 1001, 1002, 1 << 32, math.MaxInt} {
		add(fmt.Sprint("Opened ", opened), false, withSessions(b, opened, b.Sessions...))
	}
	add("Opened 1000", true, withSessions(b, 1000, b.Sessions...))
	return list
}

func byName(files []impl.File) impl.Disk {
	slices.SortFunc(files, func(f, g impl.File) int { return strings.Compare(f.Name, g.Name) })
	return diskOf(files...)
}

func withFileAt(d impl.Disk, at int, f impl.File) impl.Disk {
	files := slices.Clone(d.Files)
	files[at] = f
	return diskOf(files...)
}

// otherBooks are books that are not this one, most of them right.
func otherBooks(b impl.Book) []impl.Book {
	list := []impl.Book{{}, withTries(b, (b.Tries+1)%4), withTries(b, -1), withTries(b, 4), withWord(b, digestByLibrary("no such word")), withWord(b, ""), withLast(b, b.Last+1), withLast(b, 1000), withLast(b, 1001), withLast(b, -1),
		withChain(b, turnedByte(b.Chain, 31, 1)), withChain(b, b.Chain[:31]), withCount(b, b.Count+1), withCount(b, b.Count-1), withCount(b, 10000), withCount(b, 10001)}
	for i, x := range b.Things {
		list = append(list, withThings(b, slices.Delete(slices.Clone(b.Things), i, i+1)...))
		list = append(list, withThingAt(b, i, withId(x, x.Id+100)), withThingAt(b, i, withHiddenFixed(x, !x.Hidden, x.Fixed)), withThingAt(b, i, withHiddenFixed(x, x.Hidden, !x.Fixed)), withThingAt(b, i, withValue(x, x.Value+"v")), withThingAt(b, i, withSigns(x, !x.Signs)), withThingAt(b, i, withNext(x, x.Next+1)), withThingAt(b, i, withNext(x, x.Next-1)))
	}
	more := withThings(b, append(slices.Clone(b.Things), impl.Thing{Id: b.Last + 1, Kind: 3})...)
	return append(list, more, withLast(more, b.Last+1))
}

// spoiltUp are those of a box that is up.
func spoiltUp(b impl.Box) []namedBox {
	list := spoiltAlike(b)
	add := func(what string, right bool, box impl.Box) {
		list = append(list, namedBox{what: what, box: box, right: right})
	}
	for _, book := range otherBooks(b.Book) {
		add("a book that is not the disk's", false, withBook(b, book))
	}
	add("not Up", len(b.Sessions)+len(b.Lives)+b.Book.Count == 0, withUp(b, false))
	add("a byte behind the book", false, withBehind(b, "x"))
	add("a record behind the book", false, withBehind(b, frameOf(b.Key, b.Book.Count+1, "\x02\x01")))
	add("a torn record behind the book", false, withBehind(b, frameOf(b.Key, b.Book.Count+1, "\x02\x01")[:22]))
	add("a refused record behind the book", false, withBehind(b, frameOf(b.Key, b.Book.Count+1, "\x04\xe8\x07")))
	if b.Book.Count > 0 {
		file, _ := impl.FileAt(b.Disk, "book")
		add("another key", false, withKey(b, digestByLibrary("other")))
		add("a key with a byte turned", false, withKey(b, turnedByte(b.Key, 0, 1)))
		add("no book on the disk", false, withDisk(b, impl.Disk{}))
		add("a torn book", false, withDisk(b, diskOf(keptFile("book", file[:len(file)-1]))))
		add("a byte of the book turned", false, withDisk(b, diskOf(keptFile("book", turnedByte(file, len(file)/2, 4)))))
	}
	return slices.Concat(list, spoiltSessions(b), spoiltLives(b))
}

func spoiltSessions(b impl.Box) []namedBox {
	var list []namedBox
	for _, c := range []struct {
		right  bool
		opened int
		ids    []int
	}{
		{true, 0, nil}, {false, 0, []int{1}}, {true, 1, []int{1}}, {false, 1, []int{2}}, {false, 1, []int{0}}, {false, 1, []int{-1}}, {false, 5, []int{0, 1}}, {false, 5, []int{-1, 1, 2}}, {true, 5, []int{5}}, {false, 5, []int{6}}, {false, 5, []int{1, 6}},
		{true, 5, []int{1, 2}}, {true, 5, []int{1, 4, 5}}, {false, 5, []int{1, 1}}, {false, 5, []int{2, 1}}, {false, 5, []int{1, 5, 5}}, {false, 5, []int{1, 5, 4}}, {false, 5, []int{1, 2, 3, 4}}, {false, 1000, []int{1, 2, 3, 4, 5, 6, 7, 8}},
		{true, 1000, []int{998, 999, 1000}}, {false, 1000, []int{999, 1000, 1001}}, {false, 1001, []int{1001}}, {false, 999, []int{1000}}, {false, 5, []int{math.MinInt, 1}}, {false, 5, []int{1, math.MaxInt}}, {false, 5, []int{1<<32 + 1}},
	} {
		for in := range 2 {
			var sessions []impl.Session
			for i, id := range c.ids {
				sessions = append(sessions, impl.Session{Id: id, In: (i+in)%2 == 0})
			}
			list = append(list, namedBox{what: fmt.Sprintf("Sessions %v of %d", sessions, c.opened), box: withSessions(b, c.opened, sessions...), right: c.right})
		}
	}
	return list
}

func spoiltLives(b impl.Box) []namedBox {
	var list []namedBox
	add := func(what string, right bool, lives ...impl.Live) {
		list = append(list, namedBox{what: fmt.Sprintf("%s: Lives %v", what, lives), box: withLives(b, lives...), right: right})
	}
	add("none", true)
	for _, id := range []int{math.MinInt, -1, 0, b.Book.Last + 1, 1000, 1001, math.MaxInt} {
		add("of a thing that is not there", false, impl.Live{Id: id})
	}
	var trees []impl.Live
	for _, x := range b.Book.Things {
		add("of this thing", x.Kind == 2, impl.Live{Id: x.Id})
		if x.Kind != 2 {
			add("of no tree", false, append(slices.Clone(trees), impl.Live{Id: x.Id})...)
			continue
		}
		at := func(next int) impl.Live { return impl.Live{Id: x.Id, Next: next} }
		add("at its Next", true, append(slices.Clone(trees), at(x.Next))...)
		for _, next := range []int{x.Next + 1, -1, 17, math.MinInt, math.MaxInt} {
			add("not in its leaves", false, at(next))
			add("not in its leaves, behind others", false, append(slices.Clone(trees), at(next))...)
		}
		add("twice", false, at(0), at(0))
		add("twice, in the midst", false, append(slices.Clone(trees), at(0), at(x.Next))...)
		if len(trees) > 0 {
			add("behind a greater one", false, append([]impl.Live{at(0)}, trees...)...)
		}
		trees = append(trees, at(x.Next/2))
	}
	add("of all trees", true, trees...)
	return list
}

// spoiltFallen are those of a box that is not.
func spoiltFallen(b impl.Box) []namedBox {
	list := spoiltAlike(b)
	add := func(what string, right bool, box impl.Box) {
		list = append(list, namedBox{what: what, box: box, right: right})
	}
	add("a session", false, withSessions(b, 1, impl.Session{Id: 1}))
	add("a session that is In", false, withSessions(b, 1, impl.Session{Id: 1, In: true}))
	add("a life", false, withLives(b, impl.Live{Id: 1}))
	add("a life of nothing", false, withLives(b, impl.Live{}))
	for _, book := range append(otherBooks(modelBookNew()), bookWith(1), newBox().Book, modelBookNew(), withThings(modelBookNew(), impl.Thing{})) {
		add("a book", sameBook(book, modelBookNew()), withBook(b, book))
	}
	add("a byte behind the book", true, withBehind(b, "x"))
	add("another key", true, withKey(b, digestByLibrary("other")))
	add("a key of bytes 0", true, withKey(b, strings.Repeat("\x00", 32)))
	add("another disk", true, withDisk(b, diskOf(keptFile("book", mostText))))
	add("no disk", true, withDisk(b, impl.Disk{}))
	mounted, mends, ok := modelMount(b.Key, b.Disk)
	add("Up, with the book of a new box", ok && len(mends) == 0 && mounted.Count == 0, withUp(b, true))
	if mounted.Count > 0 {
		add("the book of its disk", false, withBook(b, mounted))
	}
	return list
}

func TestLimitsOfBoxes(t *testing.T) {
	if impl.Batch != 3 || impl.MaxSessions != mostSessions || impl.AllLeaves != mostLeaves {
		t.Error("a constant of boxes is another one")
	}
	for i, op := range []int{impl.CallOpen, impl.CallWord, impl.CallSet, impl.CallMake, impl.CallSign, impl.CallShow, impl.CallPublic, impl.CallChange, impl.CallDrop, impl.CallOut, impl.CallIn, impl.CallTake, impl.CallClose} {
		if op != i+1 {
			t.Errorf("the call %d has the number %d", i+1, op)
		}
	}
}

func TestNewBoxes(t *testing.T) {
	for _, size := range []int{0, 1, 31, 32, 33, 64, 256 + 32} {
		for _, word := range []string{"", "w", boxWord, textOf(19), textOf(20), textOf(21), textOf(256), strings.Repeat("\x00", 20), strings.Repeat("\xff", 21)} {
			b, ok := expectBoxNew(t, textOf(size), word)
			if ok != (size == 32 && len(word) <= 20) || !ok && !isZeroBox(b) {
				t.Errorf("BoxNew of a key of %d bytes and a word of %d = %s, %v", size, len(word), tellBox(b), ok)
			}
			if !ok {
				continue
			}
			if !b.Up || len(b.Sessions)+len(b.Lives)+b.Opened != 0 || b.Book.Count != 1 || b.Book.Word != digestByLibrary(word) || len(b.Disk.Files) != 1 || !impl.AllKept(b.Disk) || !expectBoxOk(t, b) {
				t.Errorf("a new box is %s", tellBox(b))
			}
		}
	}
	for _, great := range greatTexts() {
		expectBoxNew(t, great, boxWord)
		expectBoxNew(t, boxKey, great)
		expectBoxNew(t, great, great)
	}
}

func TestBoxesThatAreRight(t *testing.T) {
	for _, b := range append(upBoxes(), fallenBoxes()...) {
		if !expectBoxOk(t, b) {
			t.Errorf("%s is not right", tellBox(b))
		}
	}
}

func TestBoxesThatAreSpoilt(t *testing.T) {
	right := 0
	expect := func(list []namedBox) {
		for _, spoilt := range list {
			if got := expectBoxOk(t, spoilt.box); got != spoilt.right {
				t.Errorf("with %s, BoxOk of %s = %v", spoilt.what, tellBox(spoilt.box), got)
			}
			if spoilt.right {
				right++
			}
		}
	}
	for _, b := range upBoxes() {
		expect(spoiltUp(b))
	}
	for _, b := range fallenBoxes() {
		expect(spoiltFallen(b))
	}
	if expectBoxOk(t, impl.Box{}) || expectBoxOk(t, impl.Box{Up: true}) || right < 200 {
		t.Errorf("the zero box is right, or of the spoilt ones just %d are", right)
	}
}

// A new box, and those behind each of many calls, are right: promise 23.
func TestBoxesBehindEachCall(t *testing.T) {
	b := newBox()
	codes := map[int]int{}
	for _, c := range manyCalls() {
		want := modelCall(b, c)
		got, code, _ := expectCall(t, b, c)
		if !sameBox(got, want) {
			t.Fatalf("behind %s comes %s, want %s", tellCall(c), tellBox(got), tellBox(want))
		}
		codes[code]++
		for _, spoilt := range spoiltUp(got) {
			if impl.BoxOk(spoilt.box) != spoilt.right {
				t.Errorf("behind %s, with %s, %s is right or not otherwise", tellCall(c), spoilt.what, tellBox(spoilt.box))
			}
		}
		fallen := expectFallen(t, got)
		if !expectBoxOk(t, fallen) {
			t.Errorf("the fallen %s is not right", tellBox(fallen))
		}
		b = got
	}
	if len(codes) != 8 || codes[0] < 15 {
		t.Errorf("the calls have the codes %v", codes)
	}
}

func TestCallOkAtBothEnds(t *testing.T) {
	good := []impl.Call{openCall(), {Op: 13, Session: 1000, Thing: 1000, Kind: 3, Text: textOf(1000), Hidden: true, Fixed: true}, {Op: 7, Session: 1, Thing: 2, Kind: 1, Text: "v"}}
	expect := func(c impl.Call, right bool) {
		t.Helper()
		if expectCallOk(t, c) != right {
			t.Errorf("CallOk of %s is not %v", tellCall(c), right)
		}
	}
	far := []int{math.MinInt, -1 << 32, -1000, -2, -1, 0, 1, 2, 3, 4, 5, 12, 13, 14, 15, 255, 256, 257, 269, 999, 1000, 1001, 1002, 1<<32 + 1, math.MaxInt}
	for _, c := range good {
		expect(c, true)
		for _, n := range far {
			op, session, thing, kind := c, c, c, c
			op.Op, session.Session, thing.Thing, kind.Kind = n, n, n, n
			expect(op, n >= 1 && n <= 13)
			expect(session, n >= 0 && n <= 1000)
			expect(thing, n >= 0 && n <= 1000)
			expect(kind, n >= 0 && n <= 3)
		}
		for _, size := range []int{0, 1, 20, 21, 100, 101, 999, 1000, 1001, 1002, 20000} {
			text := c
			text.Text = textOf(size)
			expect(text, size <= 1000)
		}
		expect(toldAs(c, true, false), true)
		expect(toldAs(c, false, true), true)
		for _, great := range greatTexts() {
			text := c
			text.Text = great
			expect(text, false)
		}
	}
	expect(impl.Call{}, false)
}

// wrongCalls have one field that passes its end by one.
func wrongCalls() []impl.Call {
	var list []impl.Call
	for op := 1; op <= 13; op++ {
		c := impl.Call{Op: op, Session: 1, Thing: 1, Kind: 3, Text: boxWord}
		for _, n := range []int{-1, 1001} {
			session, thing := c, c
			session.Session, thing.Thing = n, n
			list = append(list, session, thing)
		}
		below, above, long := c, c, c
		below.Kind, above.Kind, long.Text = -1, 4, textOf(1001)
		list = append(list, below, above, long)
	}
	return append(list, impl.Call{}, impl.Call{Op: -1, Session: 1}, impl.Call{Op: 14, Session: 1}, impl.Call{Op: 257, Session: 1}, impl.Call{Op: 1<<32 + 1})
}

// fewCalls are one of each Op, which is allowed in boxes with the things of these tests but for 8 of them.
func fewCalls() []impl.Call {
	wrapped, _ := modelWrapped(modelOutKey(newBox()), "\x05\x03\x00\x04more\x00")
	return []impl.Call{openCall(), wordCall(2, boxWord), setCall(1, "other"), makeCall(1, 3, "data"), signCall(1, 1, "text"), askCall(6, 1, 3, ""), askCall(7, 1, 1, ""), toldAs(askCall(8, 1, 3, ""), true, true), askCall(9, 1, 1, ""), askCall(10, 1, 2, ""), inCall(1, wrapped), askCall(12, 1, 2, textOf(768)), closeCall(1)}
}

func TestCallsOfABoxThatIsDown(t *testing.T) {
	b := thingsBox(7)
	for _, c := range fewCalls() {
		expectCode(t, "allowed", b, c, 0)
		expectCode(t, "fallen", modelFallen(b), c, 9)
		for _, spoilt := range spoiltUp(b) {
			if !spoilt.right {
				if list, code, said := impl.Plan(spoilt.box, c); len(list) != 0 || code != 9 || said != "down" {
					t.Errorf("with %s, Plan of %s = %s, %d, %s", spoilt.what, tellCall(c), tellRecs(list), code, said)
				}
			}
		}
		for _, count := range []int{9999, 10000, 10001} {
			expectCode(t, "with another Count", withBook(b, withCount(b.Book, count)), c, 9)
		}
		expectCode(t, "with Last 1000 that is not the disk's", withBook(b, withLast(b.Book, 1000)), c, 9)
		expectCode(t, "zero", impl.Box{}, c, 9)
	}
	for _, c := range wrongCalls() {
		expectCode(t, "a wrong call", b, c, 9)
		expectCode(t, "a wrong call of a fallen box", modelFallen(b), c, 9)
	}
}

func TestOpenedSessions(t *testing.T) {
	b := newBox()
	for id := 1; id <= 3; id++ {
		next, code, said := expectCall(t, b, openCall())
		if code != 0 || said != fmt.Sprint(id) || next.Opened != id || !slices.Equal(next.Sessions, append(slices.Clone(b.Sessions), impl.Session{Id: id})) {
			t.Fatalf("the session %d is opened with %d, %q: %s", id, code, said, tellBox(next))
		}
		b = next
	}
	expectCode(t, "three sessions", b, openCall(), 1)
	b, _, _ = expectCall(t, b, closeCall(2))
	if next, code, said := expectCall(t, b, openCall()); code != 0 || said != "4" || !slices.Equal(next.Sessions, []impl.Session{{Id: 1}, {Id: 3}, {Id: 4}}) {
		t.Errorf("behind a session that is closed comes %s with %d, %q", tellBox(next), code, said)
	}
	for opened := 990; opened <= 1000; opened++ {
		for _, sessions := range [][]impl.Session{nil, {{Id: 7, In: true}}, {{Id: 7}, {Id: opened}}, {{Id: 1}, {Id: 2}, {Id: 3}}} {
			full := withSessions(thingsBox(2), opened, sessions...)
			want := 0
			if opened == 1000 || len(sessions) == 3 {
				want = 1
			}
			_, code, said := expectCall(t, full, openCall())
			if code != want || want == 0 && said != fmt.Sprint(opened+1) {
				t.Errorf("with %d opened and %d sessions CallOpen has %d, %q", opened, len(sessions), code, said)
			}
		}
	}
	for _, c := range []impl.Call{{Op: 1, Session: 9, Thing: 9, Kind: 2, Text: "v", Hidden: true, Fixed: true}, {Op: 1, Session: 1}} {
		expectCode(t, "told what it does not ask for", newBox(), c, 0)
	}
}

// Whatever is called, a session that is not there has no answer; nor has one that is not In, but of a word and of closing.
func TestSessionsThatAreNotIn(t *testing.T) {
	for _, b := range []impl.Box{thingsBox(7), thingsBox(8, triesRec(3)), withLives(treeBox(6), impl.Live{Id: 1, Next: 4}), withSessions(thingsBox(7), 1000, impl.Session{Id: 2}, impl.Session{Id: 999, In: true}, impl.Session{Id: 1000, In: true})} {
		for _, c := range fewCalls()[1:] {
			for _, id := range []int{0, 3, 4, 255, 257, 258, 998} {
				c.Session = id
				expectCode(t, "no such session", b, c, 2)
			}
			c.Session = 2
			if c.Op == 2 || c.Op == 13 {
				continue
			}
			next, code, _ := expectCall(t, b, c)
			if code != 5 || !sameBox(next, b) {
				t.Errorf("%s of a session that is not In has the code %d and makes %s", tellCall(c), code, tellBox(next))
			}
		}
	}
}

func TestClosedSessions(t *testing.T) {
	b := withSessions(thingsBox(2, triesRec(3)), 9, impl.Session{Id: 1}, impl.Session{Id: 5, In: true}, impl.Session{Id: 9})
	for _, s := range b.Sessions {
		next, code, said := expectCall(t, b, closeCall(s.Id))
		want := slices.DeleteFunc(slices.Clone(b.Sessions), func(other impl.Session) bool { return other == s })
		if code != 0 || said != "" || !slices.Equal(next.Sessions, want) || next.Opened != 9 {
			t.Errorf("behind a session that is closed comes %s with %d, %q", tellBox(next), code, said)
		}
		expectCode(t, "closed already", next, closeCall(s.Id), 2)
	}
}

func TestWordsOfCallers(t *testing.T) {
	for tries := range 4 {
		for _, in := range []bool{false, true} {
			b := withSessions(boxOf(wordRec(boxWord), triesRec(tries)), 5, impl.Session{Id: 2}, impl.Session{Id: 4, In: in}, impl.Session{Id: 5})
			next, code, said := expectCall(t, b, wordCall(4, boxWord))
			switch {
			case tries == 3 && (code != 3 || said != "locked" || !sameBox(next, b)):
				t.Errorf("the right word behind %d tries: %d, %q, %s", tries, code, said, tellBox(next))
			case tries < 3 && (code != 0 || said != "" || next.Book.Tries != 0 || next.Book.Count-b.Book.Count != min(tries, 1) || !slices.Equal(next.Sessions, []impl.Session{{Id: 2}, {Id: 4, In: true}, {Id: 5}})):
				t.Errorf("the right word behind %d tries: %d, %q, %s", tries, code, said, tellBox(next))
			}
			for _, wrong := range []string{"", "Word", "wor", "word\x00", " word", digestByLibrary(boxWord), textOf(1000)} {
				next, code, said := expectCall(t, b, wordCall(4, wrong))
				switch {
				case tries == 3 && (code != 3 || said != "locked" || !sameBox(next, b)):
					t.Errorf("a wrong word behind %d tries: %d, %q, %s", tries, code, said, tellBox(next))
				case tries < 3 && (code != 4 || said != "word" || next.Book.Tries != tries+1 || !slices.Equal(next.Sessions, b.Sessions)):
					t.Errorf("a wrong word behind %d tries: %d, %q, %s", tries, code, said, tellBox(next))
				}
			}
		}
	}
	for _, word := range []string{"", "w", textOf(20), textOf(21), textOf(1000)} {
		b := boxOf(wordRec(word))
		expectCode(t, "the word of the box", b, wordCall(2, word), 0)
		expectCode(t, "another word", b, wordCall(2, word[len(word)/2:]+"x"), 4)
	}
}

// A box is locked by the third wrong word in a row, for each session, and stays so when it has fallen and risen.
func TestLockedBoxes(t *testing.T) {
	b := behindCalls(openCall(), openCall(), openCall(), wordCall(3, boxWord), wordCall(1, "a"), wordCall(2, "b"), wordCall(1, boxWord), wordCall(1, "a"), wordCall(2, "b"))
	expectCode(t, "below the most", b, wordCall(2, boxWord), 0)
	b, code, _ := expectCall(t, b, wordCall(2, "c"))
	if code != 4 || b.Book.Tries != 3 {
		t.Fatalf("the third wrong word has the code %d: %s", code, tellBox(b))
	}
	for id := 1; id <= 3; id++ {
		expectCode(t, "the right word", b, wordCall(id, boxWord), 3)
		expectCode(t, "a wrong word", b, wordCall(id, "c"), 3)
	}
	if same, _, _ := expectCall(t, b, wordCall(1, "c")); !sameBox(same, b) {
		t.Errorf("a locked box is changed by a word: %s", tellBox(same))
	}
	again, ok := expectRise(t, expectFallen(t, b))
	again, _, _ = expectCall(t, again, openCall())
	if expectCode(t, "risen", again, wordCall(1, boxWord), 3); !ok {
		t.Error("a locked box does not rise")
	}
	// Who is in still may set a word, behind which the tries are none.
	b, code, _ = expectCall(t, b, setCall(3, "new"))
	if expectCode(t, "the new word", b, wordCall(2, "new"), 0); code != 0 || b.Book.Tries != 0 {
		t.Errorf("set has the code %d: %s", code, tellBox(b))
	}
}

func TestWordsThatAreSet(t *testing.T) {
	b := thingsBox(2, triesRec(2))
	for _, size := range []int{0, 1, 19, 20, 21, 22, 256, 1000} {
		word := textOf(size)
		next, code, said := expectCall(t, b, setCall(1, word))
		if size > 20 {
			if code != 6 || said != "wrong" || !sameBox(next, b) {
				t.Errorf("a word of %d bytes is set with %d, %q", size, code, said)
			}
			continue
		}
		if code != 0 || said != "" || next.Book.Word != digestByLibrary(word) || next.Book.Tries != 0 || next.Book.Count != b.Book.Count+1 {
			t.Errorf("a word of %d bytes is set with %d, %q: %s", size, code, said, tellBox(next))
		}
		expectCode(t, "the word that is set", next, wordCall(2, word), 0)
		expectCode(t, "the word that was", next, wordCall(2, boxWord), 4)
	}
}

// expectMade: a call that makes a thing has its Id as its answer, and the thing is in the book.
func expectMade(t *testing.T, b impl.Box, c impl.Call, want impl.Thing) impl.Box {
	t.Helper()
	next, code, said := expectCall(t, b, c)
	want.Id = b.Book.Last + 1
	got, there := impl.ThingOf(next.Book, want.Id)
	if code != 0 || said != fmt.Sprint(want.Id) || !there || got != want || next.Book.Last != want.Id || len(next.Book.Things) != len(b.Book.Things)+1 {
		t.Errorf("%s has %d, %q and makes %s, want %s", tellCall(c), code, said, tellThing(got), tellThing(want))
	}
	return next
}

func TestThingsThatAreMade(t *testing.T) {
	for _, b := range []impl.Box{thingsBox(0), thingsBox(7), thingsBox(8, goneRec(1), goneRec(8)), behindCalls(openCall(), wordCall(1, boxWord))} {
		id := b.Book.Last + 1
		for _, text := range []string{"", "seed", textOf(99), textOf(100), textOf(101), textOf(1000)} {
			for _, told := range changePairs {
				hidden, fixed := told[0], told[1]
				expectMade(t, b, toldAs(makeCall(1, 1, text), hidden, fixed), impl.Thing{Kind: 1, Hidden: true, Fixed: fixed, Wraps: true, Value: digestByLibrary(text)})
				expectMade(t, b, toldAs(makeCall(1, 2, text), hidden, fixed), impl.Thing{Kind: 2, Hidden: true, Fixed: fixed, Signs: true, Value: digestByLibrary(fmt.Sprint(id) + " " + text)})
				if len(text) <= 100 {
					expectMade(t, b, toldAs(makeCall(1, 3, text), hidden, fixed), impl.Thing{Kind: 3, Hidden: hidden, Fixed: fixed, Value: text})
				} else {
					expectCode(t, "too long data", b, toldAs(makeCall(1, 3, text), hidden, fixed), 6)
				}
				expectCode(t, "no kind", b, toldAs(makeCall(1, 0, text), hidden, fixed), 6)
			}
		}
	}
}

// A box with MaxThings takes no thing more; what is wrong is told ahead of that.
func TestFullBoxes(t *testing.T) {
	b := thingsBox(8)
	wrapped, _ := modelWrapped(modelOutKey(b), modelThing(keptThings()[1]))
	for kind := 1; kind <= 3; kind++ {
		expectCode(t, "full", b, makeCall(1, kind, "seed"), 1)
	}
	expectCode(t, "full", b, inCall(1, wrapped), 1)
	expectCode(t, "full, and no kind", b, makeCall(1, 0, "seed"), 6)
	expectCode(t, "full, and too long", b, makeCall(1, 3, textOf(101)), 6)
	expectCode(t, "full, and none is wrapped", b, inCall(1, wrapped+"x"), 6)
	for _, id := range []int{1, 4, 8} {
		room, _, _ := expectCall(t, b, askCall(9, 1, id, ""))
		again := expectMade(t, room, makeCall(1, 3, "more"), impl.Thing{Kind: 3, Value: "more"})
		expectCode(t, "full again", again, makeCall(1, 3, "more"), 1)
		expectMade(t, room, inCall(1, wrapped), modelRestored(keptThings()[1]))
	}
}

// A file has no room for the records of 1000 Ids, nor for 10000 records: a box whose book says so is not right, whatever is called.
func TestBoxesOfTheLastId(t *testing.T) {
	b := thingsBox(3)
	wrapped, _ := modelWrapped(modelOutKey(b), modelThing(keptThings()[1]))
	for _, last := range []int{4, 999, 1000} {
		for _, c := range []impl.Call{makeCall(1, 3, "data"), makeCall(1, 2, "seed"), makeCall(1, 0, "none"), inCall(1, wrapped), inCall(1, "none")} {
			expectCode(t, "a Last that is not the disk's", withBook(b, withLast(b.Book, last)), c, 9)
		}
	}
	var list []impl.Rec
	for id := 1; ; id++ {
		more := append(list, thingRec(impl.Thing{Id: id, Kind: 3}), goneRec(id))
		if len(bookFile(boxKey, more)) > impl.MaxText {
			break
		}
		list = more
	}
	full := boxOf(list...)
	if last := full.Book.Last; last < 300 || last >= 1000 || !expectBoxOk(t, full) {
		t.Errorf("the most Ids of a file are %d", last)
	}
	// A plan asks for no room on the disk.
	for _, c := range []impl.Call{makeCall(1, 3, "data"), inCall(1, wrapped), setCall(1, "word")} {
		expectCode(t, "the most Ids", full, c, 0)
	}
}

func modelThing(x impl.Thing) string {
	text, ok := modelThingText(x)
	if !ok {
		panic("a thing of a test has no text")
	}
	return text
}

// No two trees of a box have one key, though they are made of one text, nor when the first one is gone.
func TestTreesOfABoxAreUnlike(t *testing.T) {
	b := behindCalls(openCall(), wordCall(1, boxWord))
	met := map[string]int{}
	for i := range 12 {
		c := makeCall(1, 2, "seed")
		next, code, _ := expectCall(t, b, c)
		x, there := impl.ThingOf(next.Book, i+1)
		if code != 0 || !there {
			t.Fatalf("the tree %d is made with the code %d", i+1, code)
		}
		met[x.Value]++
		if i%2 == 0 {
			next, _, _ = expectCall(t, next, askCall(9, 1, i+1, ""))
		}
		b = next
	}
	other := behindCalls(openCall(), wordCall(1, boxWord), makeCall(1, 3, ""), makeCall(1, 2, "seed"))
	if x, _ := impl.ThingOf(other.Book, 2); len(met) != 12 || met[x.Value] != 1 {
		t.Errorf("of 12 trees %d are unlike", len(met))
	}
}

// ruledBoxes have a thing with the Id 1 of each sort: of each Kind with each of its flags.
func ruledBoxes() []impl.Box {
	var list []impl.Box
	for _, x := range plainThings() {
		for flags := range flagsByKind {
			if one := withFlags(withId(x, 1), flags); modelThingOk(one) {
				list = append(list, boxOf(wordRec(boxWord), thingRec(one)))
			}
		}
	}
	return list
}

// What may be done hangs on the flags and the Kind of a thing alone.
func TestRulesOfCalls(t *testing.T) {
	pair, _ := modelPairOf(textOf(32))
	cipher, found, _ := modelHandOver(pair.Public, digestByLibrary("m"))
	for _, b := range ruledBoxes() {
		x := b.Book.Things[0]
		expect := func(op int, text string, allowed bool, answer string) {
			t.Helper()
			next, code, said := expectCall(t, b, askCall(op, 1, 1, text))
			if allowed && (code != 0 || said != answer) || !allowed && (code != 8 || said != "policy" || !sameBox(next, b)) {
				t.Errorf("the call %d of %s has the code %d and the answer %s", op, tellThing(x), code, tellSeed(said))
			}
		}
		wrapped, _ := modelWrapped(modelOutKey(b), modelThing(x))
		h, _ := modelHyperSign(x.Value, 5, "text")
		signed, _ := modelHyperText(h)
		expect(5, "text", x.Signs, signed)
		expect(6, "", !x.Hidden, x.Value)
		expect(7, "", true, modelPublicPart(x))
		expect(9, "", true, "")
		expect(10, "", !x.Fixed && x.Kind != 2, wrapped)
		expect(12, cipher, x.Wraps, found)
		for _, told := range changePairs {
			next, code, said := expectCall(t, b, toldAs(askCall(8, 1, 1, ""), told[0], told[1]))
			allowed := (told[0] || !x.Hidden) && (told[1] || !x.Fixed)
			got, _ := impl.ThingOf(next.Book, 1)
			if allowed && (code != 0 || said != "" || got != withHiddenFixed(x, told[0], told[1])) || !allowed && (code != 8 || !sameBox(next, b)) {
				t.Errorf("%s is changed to %v with the code %d: %s", tellThing(x), told, code, tellThing(got))
			}
		}
		for op := 5; op <= 12; op++ {
			for _, id := range []int{0, 2, 3, 255, 257, 1000} {
				if c := askCall(op, 1, id, "text"); op != 11 {
					expectCode(t, "no such thing", b, c, 7)
				}
			}
		}
	}
}

func TestThingsThatAreDropped(t *testing.T) {
	b := withLives(thingsBox(8), impl.Live{Id: 1, Next: 2}, impl.Live{Id: 5, Next: 16}, impl.Live{Id: 8})
	for _, x := range b.Book.Things {
		next, code, said := expectCall(t, b, askCall(9, 1, x.Id, ""))
		lives := slices.DeleteFunc(slices.Clone(b.Lives), func(l impl.Live) bool { return l.Id == x.Id })
		if _, there := impl.ThingOf(next.Book, x.Id); code != 0 || said != "" || there || len(next.Book.Things) != 7 || next.Book.Last != 8 || !slices.Equal(next.Lives, lives) {
			t.Errorf("the thing %d is dropped with %d, %q: %s", x.Id, code, said, tellBox(next))
		}
		expectCode(t, "dropped already", next, askCall(9, 1, x.Id, ""), 7)
	}
}

// Where two reasons meet, the one that the chapter lists first is told.
func TestReasonsThatMeet(t *testing.T) {
	some, full, locked := thingsBox(7), thingsBox(8), thingsBox(8, triesRec(3))
	crowded := withSessions(full, 1000, impl.Session{Id: 1, In: true}, impl.Session{Id: 2}, impl.Session{Id: 3})
	gone := withLives(treeBox(16), impl.Live{Id: 1, Next: 16})
	noneIn := withSessions(full, 3, impl.Session{Id: 2}, impl.Session{Id: 3})
	silent := boxOf(wordRec(boxWord), thingRec(withId(keptThings()[4], 1)))
	for _, c := range []struct {
		what string
		box  impl.Box
		call impl.Call
		want int
	}{
		{"down, and full", modelFallen(crowded), openCall(), 9},
		{"a wrong call, and full", crowded, impl.Call{Op: 1, Kind: 4}, 9},
		{"a wrong call, and no session", some, impl.Call{Op: 3, Session: 1001}, 9},
		{"a wrong call, and no thing", some, askCall(6, 1, 1001, ""), 9},
		{"a wrong call, and a wrong word", some, setCall(1, textOf(1001)), 9},
		{"a wrong call, and no kind", some, makeCall(1, 4, ""), 9},
		{"full of sessions, and of all that were opened", crowded, openCall(), 1},
		{"no session, and locked", locked, wordCall(3, boxWord), 2},
		{"no session, and a wrong word", some, wordCall(3, "x"), 2},
		{"no session, and too long a word", some, setCall(3, textOf(21)), 2},
		{"no session, and full", full, makeCall(3, 3, "data"), 2},
		{"no session, and no thing", some, askCall(6, 3, 9, ""), 2},
		{"locked, and a wrong word", locked, wordCall(2, "x"), 3},
		{"locked, and In already", locked, wordCall(1, boxWord), 3},
		{"not In, and too long a word", some, setCall(2, textOf(21)), 5},
		{"not In, and no kind", some, makeCall(2, 0, ""), 5},
		{"not In, and full", full, makeCall(2, 3, ""), 5},
		{"not In, and none is wrapped", full, inCall(2, "none"), 5},
		{"not In, and no thing", noneIn, askCall(9, 3, 9, ""), 5},
		{"not In, and against the rules", some, askCall(6, 2, 1, ""), 5},
		{"not In, and no leaf", withSessions(gone, 1, impl.Session{Id: 1}), signCall(1, 1, ""), 5},
		{"no kind, and full", full, makeCall(1, 0, ""), 6},
		{"none is wrapped, and full", full, inCall(1, ""), 6},
		{"no such thing, and no cipher", some, askCall(12, 1, 9, ""), 7},
		{"against the rules, and no cipher", some, askCall(12, 1, 6, ""), 8},
		{"against the rules, and no leaf", silent, signCall(1, 1, ""), 8},
		{"no tree, and no leaf", some, signCall(1, 2, ""), 8},
		{"no leaf", gone, signCall(1, 1, ""), 1},
		{"no cipher", some, askCall(12, 1, 2, ""), 6},
	} {
		expectCode(t, c.what, c.box, c.call, c.want)
	}
}

// What a call does not ask for changes nothing of its plan, as long as it is right.
func TestFieldsThatACallDoesNotAskFor(t *testing.T) {
	b := thingsBox(7)
	plan := func(c impl.Call) string {
		list, code, said := impl.Plan(b, c)
		return fmt.Sprint(tellRecs(list), code, said)
	}
	asksThing := func(op int) bool { return op >= 5 && op <= 12 && op != 11 }
	for _, c := range fewCalls() {
		others := []impl.Call{}
		session, thing, kind, text, told := c, c, c, c, c
		if c.Op == 1 {
			session.Session = 1000
			others = append(others, session)
		}
		if !asksThing(c.Op) {
			thing.Thing = 1000
			others = append(others, thing)
		}
		if c.Op != 4 {
			kind.Kind = 3 - c.Kind
			others = append(others, kind)
		}
		if slices.Contains([]int{1, 6, 7, 8, 9, 10, 13}, c.Op) {
			text.Text = textOf(1000)
			others = append(others, text)
		}
		if c.Op != 4 && c.Op != 8 && c.Op != 11 {
			told.Hidden, told.Fixed = true, true
			others = append(others, told)
		}
		for _, other := range others {
			if expectPlan(t, b, other); plan(other) != plan(c) {
				t.Errorf("%s has another plan than %s", tellCall(other), tellCall(c))
			}
		}
	}
}

func TestThingsThatAreTakenOut(t *testing.T) {
	b := thingsBox(3)
	for _, id := range []int{2, 3} {
		x, _ := modelThingOf(b.Book, id)
		same, code, wrapped := expectCall(t, b, askCall(10, 1, id, ""))
		if text, ok := impl.Unwrapped(digestByLibrary("out"+boxKey), wrapped); code != 0 || !ok || text != modelThing(x) || !sameBox(same, b) {
			t.Fatalf("%s is taken out with the code %d as %s", tellThing(x), code, tellSeed(text))
		}
		if _, ok := impl.Unwrapped(boxKey, wrapped); ok {
			t.Errorf("%s is taken out under the key of the box itself", tellThing(x))
		}
		for _, told := range changePairs {
			again := expectMade(t, b, toldAs(inCall(1, wrapped), told[0], told[1]), withHiddenFixed(x, x.Hidden || told[0], told[1]))
			expectMade(t, again, inCall(1, wrapped), x)
		}
		gone, _, _ := expectCall(t, b, askCall(9, 1, id, ""))
		expectMade(t, gone, inCall(1, wrapped), x)
		for place := range len(wrapped) {
			for _, mask := range []byte{1, 64} {
				if list, code, said := impl.Plan(b, inCall(1, turnedByte(wrapped, place, mask))); len(list) != 0 || code != 6 || said != "wrong" {
					t.Errorf("with the byte %d turned it comes in with %d, %q", place, code, said)
				}
			}
			expectCode(t, "cut", b, inCall(1, wrapped[:place]), 6)
		}
		expectCode(t, "with a byte behind it", b, inCall(1, wrapped+"\x00"), 6)
		other := behindKey(digestByLibrary("another key"), thingRec(x))
		expectCode(t, "another box", other, inCall(1, wrapped), 6)
	}
}

// behindKey is a box under another key, with one thing that has the Id 1.
func behindKey(key string, r impl.Rec) impl.Box {
	r.Thing.Id = 1
	b := boxOf(r)
	return withKey(withDisk(b, diskOf(keptFile("book", bookFile(key, []impl.Rec{r})))), key)
}

// What was wrapped by another hand that has the key comes in as well, if it is a thing: a tree signs no more, and its leaves are none.
func TestThingsThatComeIn(t *testing.T) {
	b := thingsBox(2)
	comes := func(text string) impl.Call {
		wrapped, ok := modelWrapped(modelOutKey(b), text)
		if !ok {
			t.Fatalf("%s is not wrapped", tellSeed(text))
		}
		return inCall(1, wrapped)
	}
	for _, x := range append(rightThings(), keptThings()...) {
		for _, told := range changePairs {
			want := withHiddenFixed(x, x.Hidden || told[0], x.Fixed || told[1])
			want.Signs, want.Next = false, 0
			next := expectMade(t, b, toldAs(comes(modelThing(x)), told[0], told[1]), want)
			if want := map[bool]int{true: 0, false: -1}[x.Kind == 2]; expectLeafOf(t, next, 3) != want {
				t.Errorf("what comes in again, %s, gives the leaf %d away", tellThing(x), impl.LeafOf(next, 3))
			}
			expectCode(t, "comes in again", next, signCall(1, 3, "text"), 8)
		}
	}
	for _, text := range append(noRecTexts(), "\x05\x03\x00\x04more", "\x05\x03\x00\x04more\x01", "\x05\x03\x10\x04more\x00", "\x00\x03\x00\x04more\x00", "\x05\x03\x00\x04more\x00\x00", boxWord) {
		if len(text) <= mostWrapped {
			expectCode(t, "no thing", b, comes(text), 6)
		}
	}
	thing := modelThing(keptThings()[1])
	for _, key := range []string{"", boxKey, "out", digestByLibrary(boxKey), digestByLibrary(boxKey + "out"), digestByLibrary("in" + boxKey)} {
		wrapped, _ := modelWrapped(key, thing)
		expectCode(t, "under another key", b, inCall(1, wrapped), 6)
	}
	for num := 1; num < 4; num++ {
		expectCode(t, "locked with another number", b, inCall(1, lockedUnder(modelOutKey(b), modelVar(num), filledWith(thing, 0))), 6)
	}
	for _, text := range []string{"", "\x00", thing, textOf(64), textOf(416), textOf(1000)} {
		expectCode(t, "never wrapped", b, inCall(1, text), 6)
	}
}

func TestSecretsThatAreTaken(t *testing.T) {
	b := behindCalls(openCall(), wordCall(1, boxWord), makeCall(1, 1, "lock"), makeCall(1, 1, "other"))
	_, _, public := expectCall(t, b, askCall(7, 1, 1, ""))
	if pair, _ := impl.PairOf(digestByLibrary("lock")); public != pair.Public {
		t.Errorf("the public part is %s", tellSeed(public))
	}
	for _, word := range []string{"m", "another message"} {
		cipher, found, ok := impl.HandOver(public, digestByLibrary(word))
		same, code, said := expectCall(t, b, askCall(12, 1, 1, cipher))
		if !ok || code != 0 || said != found || !sameBox(same, b) {
			t.Errorf("what was handed over is taken with %d, %s, want %s", code, tellSeed(said), tellSeed(found))
		}
		if _, code, said := expectCall(t, b, askCall(12, 1, 2, cipher)); code != 0 || said == found {
			t.Errorf("by another key is taken, with %d, %s", code, tellSeed(said))
		}
		for _, place := range []int{0, 1, 300, 639, 640, 767} {
			if _, code, said := impl.Plan(b, askCall(12, 1, 1, turnedByte(cipher, place, 1))); code != 0 || said == found || len(said) != 32 {
				t.Errorf("with the byte %d turned is taken, with %d, %s", place, code, tellSeed(said))
			}
		}
		expectCode(t, "a byte less", b, askCall(12, 1, 1, cipher[1:]), 6)
		expectCode(t, "a byte more", b, askCall(12, 1, 1, cipher+"\x00"), 6)
	}
	for _, size := range []int{0, 32, 767, 769, 1000} {
		expectCode(t, "no cipher", b, askCall(12, 1, 1, textOf(size)), 6)
	}
	expectCode(t, "never handed over", b, askCall(12, 1, 1, textOf(768)), 0)
}

// expectSigned: what is signed is right for the text by the public part, and of this leaf.
func expectSigned(t *testing.T, b impl.Box, id int, text, signed string, leaf int) {
	t.Helper()
	x, _ := impl.ThingOf(b.Book, id)
	h, ok := impl.ReadHyper(signed)
	if !ok || impl.HyperIndex(h) != leaf || !impl.HyperCheck(impl.PublicPart(x), text, h) {
		t.Errorf("the text %s is signed as %s, want the leaf %d", tellSeed(text), tellHyper(h), leaf)
	}
}

// All leaves of a tree in order, each once; a record is entered ahead of each third one.
func TestLeavesAreGivenAwayOnce(t *testing.T) {
	b := behindCalls(openCall(), wordCall(1, boxWord), makeCall(1, 2, "seed"), makeCall(1, 2, "seed"))
	for leaf := range 16 {
		text := fmt.Sprint("text ", leaf)
		next, code, signed := expectCall(t, b, signCall(1, 1, text))
		expectSigned(t, b, 1, text, signed, leaf)
		x, _ := impl.ThingOf(next.Book, 1)
		records := map[bool]int{true: 1, false: 0}[leaf%3 == 0]
		if want := min((leaf/3+1)*3, 16); code != 0 || x.Next != want || next.Book.Count != b.Book.Count+records || !slices.Equal(next.Lives, []impl.Live{{Id: 1, Next: leaf + 1}}) {
			t.Fatalf("behind the leaf %d, with the code %d, comes %s", leaf, code, tellBox(next))
		}
		b = next
	}
	for _, text := range []string{"", "text 15", "text"} {
		expectCode(t, "all leaves", b, signCall(1, 1, text), 1)
	}
	next, code, signed := expectCall(t, b, signCall(1, 2, "text"))
	expectSigned(t, b, 2, "text", signed, 0)
	if code != 0 || !slices.Equal(next.Lives, []impl.Live{{Id: 1, Next: 16}, {Id: 2, Next: 1}}) {
		t.Errorf("another tree signs with the code %d: %s", code, tellBox(next))
	}
	risen, _ := expectRise(t, expectFallen(t, next))
	risen = withSessions(risen, 1, impl.Session{Id: 1, In: true})
	expectCode(t, "all leaves, risen", risen, signCall(1, 1, "text"), 1)
	_, _, signed = expectCall(t, risen, signCall(1, 2, "text"))
	expectSigned(t, risen, 2, "text", signed, 3)
}

func TestLeavesAtTheNextOfTheBook(t *testing.T) {
	for next := range 17 {
		for live := -1; live <= next; live++ {
			b, leaf := treeBox(next), next
			if live >= 0 {
				b, leaf = withLives(b, impl.Live{Id: 1, Next: live}), live
			}
			behind, code, signed := expectCall(t, b, signCall(1, 1, "text"))
			if leaf == 16 {
				if code != 1 || signed != "full" || !sameBox(behind, b) {
					t.Errorf("beyond all leaves it is signed with %d, %q", code, signed)
				}
				continue
			}
			want := next
			if leaf == next {
				want = min(next+3, 16)
			}
			x, _ := impl.ThingOf(behind.Book, 1)
			if expectSigned(t, b, 1, "text", signed, leaf); code != 0 || x.Next != want || expectLeafOf(t, behind, 1) != leaf+1 {
				t.Errorf("with the Next %d and the leaf %d it is signed with the code %d: %s", next, leaf, code, tellBox(behind))
			}
		}
	}
	b := treeBox(4)
	for _, text := range []string{"", "\x00", textOf(32), textOf(1000)} {
		_, _, signed := expectCall(t, b, signCall(1, 1, text))
		expectSigned(t, b, 1, text, signed, 4)
	}
}

func TestLeafOfEachThing(t *testing.T) {
	ids := []int{math.MinInt, -1, 0, 1, 2, 3, 4, 5, 6, 7, 8, 9, 1000, 1001, math.MaxInt}
	for _, b := range append(upBoxes(), fallenBoxes()...) {
		for _, id := range ids {
			leaf := expectLeafOf(t, b, id)
			if x, there := modelThingOf(b.Book, id); leaf < 0 != (!there || x.Kind != 2) || leaf > x.Next {
				t.Errorf("the leaf %d of %s", leaf, tellThing(x))
			}
		}
	}
	b := withLives(thingsBox(8), impl.Live{Id: 1, Next: 2}, impl.Live{Id: 5, Next: 0})
	for id, want := range []int{-1, 2, -1, -1, -1, 0, -1, -1, 0, -1} {
		if leaf := expectLeafOf(t, b, id); leaf != want {
			t.Errorf("the leaf of the thing %d is %d", id, leaf)
		}
	}
	// Of a box that is not right as well: what Lives tell counts ahead of the book.
	for _, next := range []int{math.MinInt, -1, 0, 3, 4, 17, math.MaxInt} {
		wrong := withLives(thingsBox(2), impl.Live{Id: 2, Next: 5}, impl.Live{Id: 1, Next: next}, impl.Live{Id: 9, Next: 1})
		if expectLeafOf(t, wrong, 1) != next || expectLeafOf(t, wrong, 2) != -1 || expectLeafOf(t, wrong, 9) != -1 {
			t.Errorf("of %s the leaf is another one", tellBox(wrong))
		}
		expectLeafOf(t, withUp(wrong, false), 1)
		expectLeafOf(t, withKey(wrong, ""), 1)
	}
}

// carriedLeaves are around those of a thing.
func carriedLeaves(next int) []int {
	return []int{math.MinInt, -2, -1, 0, 1, next - 2, next - 1, next, next + 1, 15, 16, 17, 1 << 32, math.MaxInt - 1, math.MaxInt}
}

// Whatever the code but 0, a box stays as it is; and so it does of the calls that change nothing beside their records.
func TestCarryOfEachCodeAndCall(t *testing.T) {
	boxes := []impl.Box{thingsBox(8), withLives(thingsBox(8), impl.Live{Id: 1, Next: 2}, impl.Live{Id: 5, Next: 9}), newBox(), modelFallen(thingsBox(2)), withKey(thingsBox(5), "")}
	for _, b := range boxes {
		for op := -1; op <= 15; op++ {
			for session := range 4 {
				c := askCall(op, session, session+session/3*2, "text")
				for _, code := range []int{math.MinInt, -1, 1, 2, 3, 4, 5, 6, 7, 8, 9, 10, 256, math.MaxInt} {
					if same := expectCarry(t, b, c, code, code%5); !sameBox(same, b) {
						t.Errorf("%s with the code %d makes %s", tellCall(c), code, tellBox(same))
					}
				}
				next := expectCarry(t, b, c, 0, 1)
				if changes := slices.Contains([]int{1, 2, 5, 9, 13}, op); !changes && !sameBox(next, b) {
					t.Errorf("%s makes %s", tellCall(c), tellBox(next))
				}
				if !sameDisk(next.Disk, b.Disk) || !sameBook(next.Book, b.Book) || next.Key != b.Key || next.Up != b.Up {
					t.Errorf("%s makes another book or disk, %s", tellCall(c), tellBox(next))
				}
			}
		}
	}
	for _, op := range []int{math.MinInt, -256, 257, 261, 1<<32 + 5, math.MaxInt} {
		if same := expectCarry(t, boxes[0], askCall(op, 1, 1, ""), 0, 1); !sameBox(same, boxes[0]) {
			t.Errorf("the call %d makes %s", op, tellBox(same))
		}
	}
}

func TestCarryOfSessions(t *testing.T) {
	b := withSessions(thingsBox(1), 7, impl.Session{Id: 2}, impl.Session{Id: 4, In: true}, impl.Session{Id: 7})
	for id := -1; id <= 9; id++ {
		in := slices.Clone(b.Sessions)
		for i := range in {
			in[i].In = in[i].In || in[i].Id == id
		}
		if next := expectCarry(t, b, wordCall(id, "whatever"), 0, -1); !sameBox(next, withSessions(b, 7, in...)) {
			t.Errorf("behind a word of %d comes %s", id, tellBox(next))
		}
		left := slices.DeleteFunc(slices.Clone(b.Sessions), func(s impl.Session) bool { return s.Id == id })
		if next := expectCarry(t, b, closeCall(id), 0, -1); !sameBox(next, withSessions(b, 7, left...)) {
			t.Errorf("behind closing %d comes %s", id, tellBox(next))
		}
		opened := openCall()
		opened.Session = id
		if next := expectCarry(t, b, opened, 0, -1); !sameBox(next, withSessions(b, 8, append(slices.Clone(b.Sessions), impl.Session{Id: 8})...)) {
			t.Errorf("behind opening comes %s", tellBox(next))
		}
	}
	// Whether there is room was asked by the plan.
	full := withSessions(b, 1000, impl.Session{Id: 1}, impl.Session{Id: 2}, impl.Session{Id: 3})
	if next := expectCarry(t, full, openCall(), 0, -1); next.Opened != 1001 || len(next.Sessions) != 4 {
		t.Errorf("behind opening a full box comes %s", tellBox(next))
	}
	expectCarry(t, withSessions(b, math.MaxInt), openCall(), 0, -1)
	expectCarry(t, withSessions(b, math.MinInt), openCall(), 0, -1)
}

func TestCarryOfLeaves(t *testing.T) {
	for _, lives := range [][]impl.Live{nil, {{Id: 1, Next: 1}}, {{Id: 5, Next: 7}}, {{Id: 1}, {Id: 5, Next: 16}, {Id: 8}}, {{Id: 8}}} {
		b := withLives(thingsBox(8), lives...)
		for id := -1; id <= 10; id++ {
			x, there := modelThingOf(b.Book, id)
			for _, leaf := range carriedLeaves(x.Next) {
				next := expectCarry(t, b, signCall(1, id, "text"), 0, leaf)
				told := there && x.Kind == 2 && leaf >= 0 && leaf < x.Next
				if told && (impl.LeafOf(next, id) != leaf+1 || !impl.BoxOk(next)) || !told && !sameBox(next, b) {
					t.Errorf("behind the leaf %d of the thing %d comes %s", leaf, id, tellBox(next))
				}
				// Who signs, and what, is not asked.
				if other := expectCarry(t, b, impl.Call{Op: 5, Session: 77, Thing: id, Kind: 9}, 0, leaf); !sameBox(other, next) {
					t.Errorf("behind the leaf %d of another session comes %s", leaf, tellBox(other))
				}
			}
			next := expectCarry(t, b, askCall(9, 1, id, ""), 0, 3)
			left := slices.DeleteFunc(slices.Clone(lives), func(l impl.Live) bool { return l.Id == id })
			if !sameBox(next, withLives(b, left...)) {
				t.Errorf("behind a drop of %d comes %s", id, tellBox(next))
			}
		}
	}
	b := thingsBox(1)
	if next := expectCarry(t, withBook(b, withThingAt(b.Book, 0, withNext(keptThings()[0], math.MaxInt))), signCall(1, 1, ""), 0, math.MaxInt); len(next.Lives) != 0 {
		t.Errorf("behind the greatest leaf comes %s", tellBox(next))
	}
}

func TestFallenBoxes(t *testing.T) {
	for _, b := range append(upBoxes(), fallenBoxes()...) {
		fallen := expectFallen(t, b)
		if fallen.Up || fallen.Key != b.Key || !sameDisk(fallen.Disk, b.Disk) || !sameBook(fallen.Book, impl.BookNew()) || len(fallen.Sessions)+len(fallen.Lives)+fallen.Opened != 0 || !expectBoxOk(t, fallen) {
			t.Errorf("%s falls as %s", tellBox(b), tellBox(fallen))
		}
	}
	for _, spoilt := range append(spoiltUp(thingsBox(3)), spoiltFallen(modelFallen(thingsBox(3)))...) {
		expectFallen(t, spoilt.box)
	}
	expectFallen(t, impl.Box{})
}

// What rises is the box that fell, without its sessions and lives.
func TestBoxesRiseAsTheyFell(t *testing.T) {
	for _, b := range upBoxes() {
		if got, ok := expectRise(t, b); ok || !isZeroBox(got) {
			t.Errorf("a box that is up rises as %s", tellBox(got))
		}
		got, ok := expectRise(t, expectFallen(t, b))
		if want := withLives(withSessions(b, 0)); !ok || !sameBox(got, want) {
			t.Errorf("%s rises as %s, %v", tellBox(b), tellBox(got), ok)
		}
	}
	for _, spoilt := range append(spoiltUp(thingsBox(3)), spoiltFallen(modelFallen(thingsBox(3)))...) {
		if got, ok := expectRise(t, spoilt.box); ok && (!spoilt.right || spoilt.box.Up) {
			t.Errorf("with %s, %s rises as %s", spoilt.what, tellBox(spoilt.box), tellBox(got))
		}
	}
	expectRise(t, impl.Box{})
	for _, opened := range []int{-1, 0, 7, 1000, 1001} {
		b := withSessions(modelFallen(thingsBox(2)), opened)
		if got, ok := expectRise(t, b); ok != (opened >= 0 && opened <= 1000) || ok && got.Opened != opened {
			t.Errorf("with %d opened it rises as %s, %v", opened, tellBox(got), ok)
		}
	}
}

func TestBoxesRiseFromDisksToBeMended(t *testing.T) {
	list := append([]impl.Rec{wordRec(boxWord)}, aLife()...)
	whole := bookFile(boxKey, list)
	book, _ := modelEnterAll(modelBookNew(), list)
	next := frameOf(boxKey, len(list)+1, "\x02\x02")
	for _, behind := range []string{"", "x", next[:1], next[:22], next + "x", frameOf(boxKey, 1, "\x02\x02"), textOf(9000)} {
		for _, d := range disksWith(whole + behind) {
			b := withDisk(modelFallen(newBox()), d)
			want := book
			if behind == next+"x" {
				want, _ = modelEnter(book, triesRec(2))
			}
			full := isFullWithoutMended(d) && behind != ""
			got, ok := expectRise(t, b)
			if ok == full || ok && !sameBook(got.Book, want) {
				t.Errorf("with %s behind its book, %s rises as %s, %v", tellSeed(behind), tellBox(b), tellBox(got), ok)
			}
			if file, _ := impl.FileAt(got.Disk, "book"); ok && (file != bookFile(boxKey, append(list, triesRec(2)))[:len(file)] || len(file) < len(whole)) {
				t.Errorf("%s rises with the book %s", tellBox(b), tellSeed(file))
			}
		}
	}
	for _, refused := range refusedLives() {
		b := withDisk(modelFallen(newBox()), diskOf(keptFile("book", bookFile(boxKey, refused))))
		if got, ok := expectRise(t, b); ok || !expectBoxOk(t, b) {
			t.Errorf("with a refused record, %s rises as %s", tellBox(b), tellBox(got))
		}
	}
	for _, d := range wrongDisks() {
		if got, ok := expectRise(t, withDisk(modelFallen(newBox()), d)); ok {
			t.Errorf("from a wrong disk rises %s", tellBox(got))
		}
	}
}

// On a disk of MaxFiles without room to mend in no box rises; with one file less it does.
func TestBoxesThatCanNotBeMended(t *testing.T) {
	torn := keptFile("book", bookFile(boxKey, []impl.Rec{wordRec(boxWord)})+"x")
	full := withDisk(modelFallen(newBox()), diskWith(torn, manyFiles(impl.MaxFiles-1)...))
	if got, ok := expectRise(t, full); ok || !expectBoxOk(t, full) || !isZeroBox(got) {
		t.Errorf("a torn box on a full disk rises as %s", tellBox(got))
	}
	for _, d := range []impl.Disk{diskWith(torn, manyFiles(impl.MaxFiles-2)...), diskWith(torn, append(manyFiles(impl.MaxFiles-2), keptFile("book+", "rest"))...)} {
		if got, ok := expectRise(t, withDisk(full, d)); !ok || got.Book.Word != digestByLibrary(boxWord) || len(got.Disk.Files) != impl.MaxFiles-1 {
			t.Errorf("with room to mend in rises %s, %v", tellBox(got), ok)
		}
	}
}

// What these tests know comes from another program, which was written down from the chapters by itself.
func TestKnownBox(t *testing.T) {
	b, ok := expectBoxNew(t, boxKey, boxWord)
	if file, _ := impl.FileAt(b.Disk, "book"); !ok || file != bytesOf(t, "3104b48c885899456f5064816f53276fb10a8437c68ad693c584d51d7cea28d39d174a3bc0ff0709924fe9d6085bc68f6e42b641f76a") {
		t.Errorf("a new box has the book %x", file)
	}
	top := "00bb39d71a44fd0baa2ceab00a2901b2cc93bb6613bdbb41c718cb7ebee4509cff87ebf9f99afb6ffda4f939464d09c19c4e3d0dda"
	wrapped := "2ff0ce9e715975522cb9d932264e189b183acfa7a190c41669ff213ca188a266"
	for _, c := range []struct {
		call  impl.Call
		said  string
		size  int
		chain string
	}{
		{openCall(), "31", 54, "031dbc5fa7a0a248750619fe344b03134a44a4a16d3a46e66fb7557b8ad20c9f"},
		{wordCall(1, "wrong"), "776f7264", 77, "89249feec8c7dce650b0ce2e0ba43f456e1fa1e9d3cc1a138a1d6a20377860f4"},
		{wordCall(1, "word"), "", 100, "2d65aece06873158f3c3d7b15f630b810d24f3a36ae4f76f713127b3908611d0"},
		{makeCall(1, 2, "seed"), "31", 159, "48db8feb6447e41039e070b2461823a9bc99b291cb4119e21d60ee3aec64ac58"},
		{askCall(7, 1, 1, ""), "632ce6e9", 159, "48db8feb6447e41039e070b2461823a9bc99b291cb4119e21d60ee3aec64ac58"},
		{signCall(1, 1, "text 0"), top + "00a77ea7ff8ef0266964e47e5ccb478a1bd117b6ae34e320b808cd08215bf6d77bb5537c9c9938b61519c01842ff09d2fc", 218, "37047750e99a99ca35b81dcb8582d44e1c2561470cbe21ed0a8f6b1103c6a6fa"},
		{signCall(1, 1, "text 1"), top + "019935f5d09a188d04832929627e359ba6ae9f961595681b7d4057364f9ee2b8e010184a12ddc022b6be0e31c3ff09d2fc", 218, "37047750e99a99ca35b81dcb8582d44e1c2561470cbe21ed0a8f6b1103c6a6fa"},
		{signCall(1, 1, "text 2"), top + "02a370ff8524edfb895ffd347fe205116ce7af2f49a2f69af4a13cbe673a346129518c93abd01d3eeb1e5ab41e5e6870b0", 218, "37047750e99a99ca35b81dcb8582d44e1c2561470cbe21ed0a8f6b1103c6a6fa"},
		{toldAs(makeCall(1, 3, "data"), false, true), "32", 249, "3054a2c76326e439ca42a3f1d5a18296e5e4e8ba91fb7863878ef1b40560f3a1"},
		{makeCall(1, 3, "more"), "33", 280, "bb2b36ea6d12528320a98e6a6ab4d9a9e7a68ed1dc9123c745e5ec15b1a71726"},
		{askCall(10, 1, 3, ""), wrapped, 280, "bb2b36ea6d12528320a98e6a6ab4d9a9e7a68ed1dc9123c745e5ec15b1a71726"},
		{toldAs(inCall(1, bytesOf(t, wrapped)), true, false), "34", 311, "4a734045cb64ffe5c2ad0acb1a8e5645f1633853454a2b6966b2c636f69bce2b"},
		{askCall(9, 1, 3, ""), "", 334, "a3af5db38e2c794f04161f4c2da19b92116b4cac9f8e76fc2675231166247b81"},
		{setCall(1, "another"), "", 388, "6dd8050ce6a650e16dad1bbd27624662a6646dcf021a9c8e7d549435b167e217"},
	} {
		next, _, said := expectCall(t, b, c.call)
		if file, _ := impl.FileAt(next.Disk, "book"); said != bytesOf(t, c.said) || len(file) != c.size || next.Book.Chain != bytesOf(t, c.chain) {
			t.Errorf("%s answers %x; the book has %d bytes: %s", tellCall(c.call), said, len(file), tellBox(next))
		}
		b = next
	}
	if file, _ := impl.FileAt(b.Disk, "book"); digestByLibrary(file) != bytesOf(t, "28851e2a9791e1d1bc873a8398c9b18e300c14aa2c063302f05b81954407cd85") {
		t.Errorf("behind all calls the book is %x", file)
	}
}

// drawnBox is a box whose calls and falls are drawn, with what it has answered.
type drawnBox struct {
	draw   *rand.Rand
	box    impl.Box
	word   string
	codes  map[int]int
	ops    map[int]int
	given  map[string]bool
	ciphed []string
	out    []string
	falls  int
}

// session is most often one that is In.
func (d *drawnBox) session() int {
	if n := len(d.box.Sessions); n > 0 && d.draw.IntN(10) > 0 {
		return d.box.Sessions[d.draw.IntN(n)].Id
	}
	return d.draw.IntN(6)
}

func (d *drawnBox) thing(kind int) int {
	var ids []int
	for _, x := range d.box.Book.Things {
		if x.Kind == kind || d.draw.IntN(4) == 0 {
			ids = append(ids, x.Id)
		}
	}
	if len(ids) == 0 || d.draw.IntN(12) == 0 {
		return d.draw.IntN(12)
	}
	return ids[d.draw.IntN(len(ids))]
}

func (d *drawnBox) oneOf(list []string) string {
	if len(list) == 0 || d.draw.IntN(5) == 0 {
		return drawBytes(d.draw, d.draw.IntN(100))
	}
	return list[d.draw.IntN(len(list))]
}

func (d *drawnBox) call() impl.Call {
	draw := d.draw
	told := func(c impl.Call) impl.Call { return toldAs(c, draw.IntN(3) == 0, draw.IntN(4) == 0) }
	out := slices.ContainsFunc(d.box.Sessions, func(s impl.Session) bool { return s.In })
	if len(d.box.Sessions) == 0 && draw.IntN(4) > 0 {
		return openCall()
	}
	if !out && draw.IntN(4) > 0 {
		return wordCall(d.session(), d.oneOf([]string{d.word, d.word, d.word, d.word}))
	}
	switch draw.IntN(20) {
	case 0:
		return openCall()
	case 1:
		return wordCall(d.session(), d.oneOf([]string{d.word}))
	case 2:
		if draw.IntN(2) == 0 {
			return setCall(d.session(), drawBytes(draw, draw.IntN(24)))
		}
		return closeCall(d.session())
	case 3, 4:
		return told(makeCall(d.session(), draw.IntN(4), drawBytes(draw, draw.IntN(110))))
	case 5, 6, 7, 8:
		return signCall(d.session(), d.thing(2), drawBytes(draw, draw.IntN(40)))
	case 9, 10:
		return askCall(6, d.session(), d.thing(3), "")
	case 11:
		return askCall(7, d.session(), d.thing(1+draw.IntN(2)), "")
	case 12:
		return told(askCall(8, d.session(), d.thing(1+draw.IntN(3)), ""))
	case 13:
		return askCall(9, d.session(), d.thing(1+draw.IntN(3)), "")
	case 14, 15:
		return askCall(10, d.session(), d.thing(1+draw.IntN(2)*2), "")
	case 16, 17:
		return told(inCall(d.session(), d.oneOf(d.out)))
	}
	return askCall(12, d.session(), d.thing(1), d.oneOf(d.ciphed))
}

// heed holds what is answered against all that was answered ahead of it.
func (d *drawnBox) heed(t *testing.T, c impl.Call, answer string) {
	t.Helper()
	x, _ := impl.ThingOf(d.box.Book, c.Thing)
	switch c.Op {
	case impl.CallSign:
		h, _ := impl.ReadHyper(answer)
		leaf := fmt.Sprint(x.Id, " ", impl.HyperIndex(h))
		if d.given[leaf] || impl.HyperIndex(h) < 0 {
			t.Fatalf("the leaf %s is given away twice", leaf)
		}
		d.given[leaf] = true
	case impl.CallOut:
		d.out = append(d.out, answer)
	case impl.CallSet:
		d.word = c.Text
	case impl.CallPublic:
		if x.Kind == 1 {
			cipher, _, _ := impl.HandOver(answer, digestByLibrary(answer))
			d.ciphed = append(d.ciphed, cipher)
		}
	case impl.CallShow:
		if x.Hidden {
			t.Fatalf("%s is shown", tellThing(x))
		}
	}
}

// fall lets the power go while a call is on its way, or between two; and has the box rise again.
func (d *drawnBox) fall(t *testing.T, c impl.Call) {
	t.Helper()
	list, _, _ := impl.Plan(d.box, c)
	ahead, behind := d.box, d.box
	disk := d.box.Disk
	if len(list) > 0 {
		acts, _ := impl.BookActs(d.box.Key, d.box.Book.Count, list[0])
		disk, _ = impl.CutActs(d.box.Disk, acts, d.draw.IntN(len(acts)+1), leftOfAll(d.draw.IntN(6000)))
		behind = enteredOn(t, d.box, list[0])
	}
	fallen := expectFallen(t, withDisk(d.box, disk))
	risen, ok := expectRise(t, fallen)
	if !ok || !sameBook(risen.Book, ahead.Book) && !sameBook(risen.Book, behind.Book) || len(risen.Sessions)+len(risen.Lives) != 0 {
		t.Fatalf("behind a fall while %s rises %s, want the book of %s", tellCall(c), tellBox(risen), tellBox(ahead))
	}
	if c.Op == impl.CallSet && risen.Book.Word == digestByLibrary(c.Text) {
		d.word = c.Text
	}
	d.box = risen
	d.falls++
}

// Promise 23 in drawn lives: what is refused enters nothing but tries, and a box stays right, whatever falls.
func TestDrawnCalls(t *testing.T) {
	draw := rand.New(rand.NewPCG(23, 1))
	codes, ops, falls := map[int]int{}, map[int]int{}, 0
	for range 50 {
		d := &drawnBox{draw: draw, word: drawBytes(draw, draw.IntN(21)), codes: codes, ops: ops, given: map[string]bool{}}
		d.box, _ = expectBoxNew(t, drawBytes(draw, 32), d.word)
		for range 110 {
			c := d.call()
			if draw.IntN(20) == 0 {
				d.fall(t, c)
				continue
			}
			next, code, answer := expectCall(t, d.box, c)
			codes[code]++
			if code == 0 {
				ops[c.Op]++
				d.heed(t, c, answer)
			}
			d.box = next
		}
		falls += d.falls
	}
	for op := 1; op <= 13; op++ {
		if ops[op] < 10 {
			t.Errorf("of the drawn calls that were done %v have each Op", ops)
			break
		}
	}
	for code := range 9 {
		if codes[code] < 15 {
			t.Errorf("of the drawn calls %v have each code", codes)
			break
		}
	}
	if falls < 60 {
		t.Errorf("the drawn boxes fell %d times", falls)
	}
}

// drawSpoilt is a box of which a field or two are drawn anew.
func drawSpoilt(draw *rand.Rand, b impl.Box) impl.Box {
	number := func() int { return []int{-1, 0, 1, 2, 3, 17, 1000, 1001, math.MaxInt, math.MinInt}[draw.IntN(10)] }
	for range 1 + draw.IntN(2) {
		switch draw.IntN(8) {
		case 0:
			b = withKey(b, drawBytes(draw, 31+draw.IntN(3)))
		case 1:
			b = withDisk(b, drawDisk(draw))
		case 2:
			b = withBook(b, otherBooks(thingsBox(2).Book)[draw.IntN(30)])
		case 3:
			b = withSessions(b, number(), b.Sessions...)
		case 4:
			b = withSessions(b, b.Opened, append(slices.Clone(b.Sessions), impl.Session{Id: number(), In: draw.IntN(2) == 0})...)
		case 5:
			b = withLives(b, append(slices.Clone(b.Lives), impl.Live{Id: number(), Next: number()})...)
		case 6:
			b = withUp(b, !b.Up)
		default:
			b = withBook(b, withThingAt(thingsBox(3).Book, draw.IntN(3), drawAnyThing(draw)))
		}
	}
	return b
}

func TestDrawnBoxesOfAnySort(t *testing.T) {
	draw := rand.New(rand.NewPCG(23, 2))
	some := append(upBoxes(), fallenBoxes()...)
	right, down := 0, 0
	for range 1500 {
		b := some[draw.IntN(len(some))]
		if draw.IntN(4) > 0 {
			b = drawSpoilt(draw, b)
		}
		c := impl.Call{Op: draw.IntN(16) - 1, Session: draw.IntN(4), Thing: draw.IntN(10), Kind: draw.IntN(5), Text: drawText(draw), Hidden: draw.IntN(2) == 0, Fixed: draw.IntN(2) == 0}
		if expectBoxOk(t, b) {
			right++
		}
		if _, code, _ := expectPlan(t, b, c); code == 9 {
			down++
		}
		expectCallOk(t, c)
		leaf := expectLeafOf(t, b, c.Thing)
		expectCarry(t, b, c, draw.IntN(2), leaf)
		expectFallen(t, b)
		expectRise(t, b)
	}
	if right < 400 || down < 400 {
		t.Errorf("of the drawn boxes %d are right and %d down", right, down)
	}
}

// Whatever comes, no call panics; of lists that no right box has, nothing more is asked.
func TestBoxesThatNoneHas(t *testing.T) {
	far := []int{math.MinInt, -1, 0, 1, 7, 1000, math.MaxInt}
	for _, b := range []impl.Box{{}, {Up: true}, newBox(), thingsBox(8), modelFallen(thingsBox(8))} {
		for _, n := range far {
			many := withLives(withSessions(b, n, slices.Repeat([]impl.Session{{Id: n, In: true}, {Id: 1}}, 20)...), slices.Repeat([]impl.Live{{Id: n, Next: n}, {Id: 1}}, 20)...)
			for op := -1; op <= 14; op++ {
				for _, code := range far {
					c := impl.Call{Op: op, Session: n, Thing: n, Kind: n, Text: boxWord}
					list, said, _ := impl.Plan(many, c)
					if impl.BoxOk(many) || len(list) != 0 || said != 9 {
						t.Fatalf("Plan of %s in %s has the code %d", tellCall(c), tellBox(many), said)
					}
					impl.Carry(many, c, code, n)
					impl.Carry(many, c, 0, code)
					impl.LeafOf(many, n)
					impl.CallOk(c)
				}
			}
			if _, ok := impl.Rise(many); ok {
				t.Errorf("%s rises", tellBox(many))
			}
			impl.Fallen(many)
		}
	}
}

// All texts may be pieces of one.
func TestBoxesWhoseTextsLieTogether(t *testing.T) {
	b := thingsBox(7)
	file, _ := impl.FileAt(b.Disk, "book")
	whole := strings.Clone(boxKey + file + "book" + boxWord + textOf(768) + b.Book.Word + b.Book.Chain)
	was := strings.Clone(whole)
	piece := func(text string) string {
		at := strings.Index(whole, text)
		return whole[at : at+len(text)]
	}
	b.Key, b.Disk = piece(boxKey), diskOf(keptFile(piece("book"), piece(file)))
	b.Book.Word, b.Book.Chain = piece(b.Book.Word), piece(b.Book.Chain)
	var texts []string
	for _, c := range fewCalls() {
		if text := strings.Index(whole, c.Text); text >= 0 {
			c.Text = piece(c.Text)
		}
		list, code, answer := impl.Plan(b, c)
		if want, wantCode, said := modelPlan(b, c); !slices.Equal(list, want) || code != wantCode || answer != said {
			t.Errorf("of pieces of a text, %s has the code %d", tellCall(c), code)
		}
		for _, r := range list {
			texts = append(texts, r.Text, r.Thing.Value)
		}
		texts = append(append(texts, answer), textsOfBox(impl.Carry(b, c, 0, 1))...)
	}
	made, ok := impl.BoxNew(piece(boxKey), piece(boxWord))
	risen, right := impl.Rise(impl.Fallen(b))
	if !ok || !right || !sameBox(made, newBox()) || !sameBox(risen, withLives(withSessions(b, 0))) {
		t.Errorf("of pieces of a text comes %s, %s", tellBox(made), tellBox(risen))
	}
	for _, text := range slices.Concat(texts, textsOfBox(made), textsOfBox(risen), textsOfBox(impl.Fallen(b))) {
		if sharesMemory(text, whole) {
			t.Fatalf("%s of an answer shares memory with an argument", tellSeed(text))
		}
	}
	if whole != was {
		t.Error("an argument is written into")
	}
}

func TestBoxesAmongMany(t *testing.T) {
	shared, calls := withLives(thingsBox(7), impl.Live{Id: 1, Next: 3}), fewCalls()
	wants := make([]impl.Box, len(calls))
	for i, c := range calls {
		wants[i] = modelCall(shared, c)
	}
	var callers sync.WaitGroup
	for caller := range 8 {
		callers.Go(func() {
			for i := range 3 * len(calls) {
				at := (i + caller) % len(calls)
				c := calls[at]
				list, code, _ := impl.Plan(shared, c)
				b := shared
				for _, r := range list {
					acts, _ := impl.BookActs(b.Key, b.Book.Count, r)
					b.Disk, _ = impl.DoActs(b.Disk, acts)
					b.Book, _ = impl.Enter(b.Book, r)
				}
				b = impl.Carry(b, c, code, impl.LeafOf(shared, c.Thing))
				risen, ok := impl.Rise(impl.Fallen(b))
				if !sameBox(b, wants[at]) || !impl.BoxOk(b) || !ok || !sameBook(risen.Book, b.Book) {
					t.Errorf("among many, %s makes %s", tellCall(c), tellBox(b))
				}
			}
		})
	}
	callers.Wait()
}
