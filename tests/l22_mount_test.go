package tests

import (
	"fmt"
	"math"
	"math/rand/v2"
	"slices"
	"strings"
	"sync"
	"testing"

	"loop.example/g00186/impl"
)

// frameOf is the frame of a text that is locked under a key with a number.
func frameOf(key string, num int, text string) string {
	return frameByBits(lockedUnder(key, modelVar(num), text))
}

// framesOfBook are the frames of records, each with the number of its place.
func framesOfBook(key string, list []impl.Rec) []string {
	var frames []string
	for i, r := range list {
		frames = append(frames, frameOf(key, i+1, modelText(r)))
	}
	return frames
}

func bookFile(key string, list []impl.Rec) string {
	return strings.Join(framesOfBook(key, list), "")
}

func modelBookActs(key string, count int, r impl.Rec) ([]impl.Act, bool) {
	text, right := modelRecText(r)
	if !right || count < 0 || count > mostCount {
		return nil, false
	}
	return []impl.Act{{Kind: impl.ActAdd, Name: "book", Text: frameOf(key, count+1, text)}, {Kind: impl.ActKeep, Name: "book"}}, true
}

func modelReadBook(key, file string) ([]impl.Rec, int) {
	var list []impl.Rec
	end := 0
	frames, _ := modelUnframe(file)
	for i, frame := range frames {
		text, opened := modelOpen(key, i+1, frame)
		r, is := modelReadRec(text)
		if !opened || !is {
			break
		}
		list = append(list, r)
		end += len(frameByBits(frame))
	}
	return list, end
}

// modelMends are the acts that mend a file of which the beginning is whole.
func modelMends(whole string, beside bool) []impl.Act {
	list := []impl.Act{{Kind: impl.ActDrop, Name: "book+"}, {Kind: impl.ActAdd, Name: "book+", Text: whole}, {Kind: impl.ActKeep, Name: "book+"}, {Kind: impl.ActMove, Name: "book+", To: "book"}}
	if !beside {
		return list[1:]
	}
	return list
}

func modelMount(key string, d impl.Disk) (impl.Book, []impl.Act, bool) {
	if !modelOk(d) {
		return impl.Book{}, nil, false
	}
	file, beside := "", false
	for _, f := range d.Files {
		switch f.Name {
		case "book":
			file = f.Text
		case "book+":
			beside = true
		}
	}
	list, end := modelReadBook(key, file)
	b, ok := modelEnterAll(modelBookNew(), list)
	if !ok || end == len(file) {
		return b, nil, ok
	}
	return b, modelMends(file[:end], beside), true
}

func tellActs(list []impl.Act) string {
	var parts []string
	for _, a := range list {
		parts = append(parts, tellAct(a))
	}
	return "[" + strings.Join(parts, "; ") + "]"
}

func tellRecs(list []impl.Rec) string {
	var parts []string
	for _, r := range list[:min(len(list), 6)] {
		parts = append(parts, tellRec(r))
	}
	return fmt.Sprintf("%d records [%s]", len(list), strings.Join(parts, "; "))
}

// expectOwnActs leaves out the names of two answers: they may be one constant.
func expectOwnActs(t *testing.T, what string, got, again []impl.Act, given ...string) {
	t.Helper()
	if listsShare(got, again) {
		t.Errorf("%s: two answers are one list", what)
	}
	var texts []string
	for _, a := range slices.Concat(got, again) {
		texts = append(texts, a.Text)
		for _, s := range given {
			if sharesMemory(a.Name, s) || sharesMemory(a.To, s) {
				t.Errorf("%s: a name in the answer shares memory with an argument", what)
			}
		}
	}
	expectOwnTexts(t, what, texts, given...)
}

// expectBookActs asks twice; what is done to one answer must not be seen in the other.
func expectBookActs(t *testing.T, key string, count int, r impl.Rec) ([]impl.Act, bool) {
	t.Helper()
	givenKey, givenRec := strings.Clone(key), ownRec(r)
	got, ok := impl.BookActs(givenKey, count, givenRec)
	again, right := impl.BookActs(givenKey, count, givenRec)
	want, there := modelBookActs(key, count, r)
	if !slices.Equal(got, want) || !slices.Equal(again, want) || ok != there || right != there {
		t.Errorf("BookActs under the key %s with count %d of %s = %s, %v, and %s, %v the next time, want %s, %v", tellSeed(key), count, tellRec(r), tellActs(got), ok, tellActs(again), right, tellActs(want), there)
	}
	if givenKey != key || givenRec != r {
		t.Errorf("BookActs of %s writes into an argument", tellRec(r))
	}
	expectOwnActs(t, "BookActs", got, again, givenKey, givenRec.Text, givenRec.Thing.Value)
	spoil(again, impl.Act{Kind: impl.ActDrop, Name: "spoilt"})
	if !slices.Equal(got, want) {
		t.Errorf("BookActs of %s is another one when another answer is changed", tellRec(r))
	}
	return got, ok
}

func expectNoBookActs(t *testing.T, key string, count int, r impl.Rec) {
	t.Helper()
	if list, ok := expectBookActs(t, key, count, r); ok || len(list) != 0 {
		t.Errorf("BookActs under the key %s with count %d of %s = %s, %v, want none", tellSeed(key), count, tellRec(r), tellActs(list), ok)
	}
}

// writtenBook is what BookActs adds of these records one after another.
func writtenBook(key string, list []impl.Rec) string {
	file := ""
	for i, r := range list {
		if acts, ok := impl.BookActs(key, i, r); ok {
			file += acts[0].Text
		}
	}
	return file
}

// expectReadBook holds as well, without the model, that what is read is what was written up to the place that is told.
func expectReadBook(t *testing.T, key, file string) ([]impl.Rec, int) {
	t.Helper()
	givenKey, givenFile := strings.Clone(key), strings.Clone(file)
	got, end := impl.ReadBook(givenKey, givenFile)
	again, place := impl.ReadBook(givenKey, givenFile)
	want, behind := modelReadBook(key, file)
	if !slices.Equal(got, want) || !slices.Equal(again, want) || end != behind || place != behind {
		t.Errorf("ReadBook under the key %s of %s = %s, %d, and %s, %d the next time, want %s, %d", tellSeed(key), tellSeed(file), tellRecs(got), end, tellRecs(again), place, tellRecs(want), behind)
	}
	if givenKey != key || givenFile != file {
		t.Errorf("ReadBook of %s writes into an argument", tellSeed(file))
	}
	var texts []string
	for _, r := range slices.Concat(got, again) {
		texts = append(texts, r.Text, r.Thing.Value)
	}
	if len(texts) < 200 {
		expectOwnTexts(t, "ReadBook", texts, givenKey, givenFile)
	}
	if listsShare(got, again) {
		t.Error("ReadBook: two answers are one list")
	}
	spoil(again, goneRec(7))
	if end < 0 || end > len(file) || writtenBook(key, got) != file[:end] || !slices.Equal(got, want) {
		t.Errorf("of %s %s are read up to %d, which were written otherwise", tellSeed(file), tellRecs(got), end)
	}
	return got, end
}

// expectReadFirst: of this file just the first records are read.
func expectReadFirst(t *testing.T, what, key, file string, list []impl.Rec, number int) {
	t.Helper()
	got, end := expectReadBook(t, key, file)
	if want := len(bookFile(key, list[:number])); !slices.Equal(got, list[:number]) || end != want {
		t.Errorf("%s: %s up to %d are read, want %d records up to %d", what, tellRecs(got), end, number, want)
	}
}

// diskWith has a file beside others.
func diskWith(f impl.File, others ...impl.File) impl.Disk {
	files := append(slices.Clone(others), f)
	slices.SortFunc(files, func(a, b impl.File) int { return strings.Compare(a.Name, b.Name) })
	return diskOf(files...)
}

func keptFile(name, text string) impl.File {
	return impl.File{Name: name, Text: text, Kept: len(text)}
}

// ownDisk is one like it that shares no memory with it, and has spare room; and whether nothing was written into it since.
func ownDisk(d impl.Disk) (impl.Disk, func() bool) {
	var own []impl.File
	for _, f := range d.Files {
		own = append(own, impl.File{Name: strings.Clone(f.Name), Text: strings.Clone(f.Text), Kept: f.Kept})
	}
	files, stay := guarded(own, impl.File{Name: "book", Text: "spare room", Kept: 3})
	return diskOf(files...), func() bool { return stay() && slices.Equal(files, d.Files) }
}

// expectMount holds as well what promise 22 says of mending.
func expectMount(t *testing.T, key string, d impl.Disk) (impl.Book, []impl.Act, bool) {
	t.Helper()
	givenKey := strings.Clone(key)
	given, stays := ownDisk(d)
	got, acts, ok := impl.Mount(givenKey, given)
	again, more, right := impl.Mount(givenKey, given)
	want, mends, there := modelMount(key, d)
	if !sameBook(got, want) || !sameBook(again, want) || !slices.Equal(acts, mends) || !slices.Equal(more, mends) || ok != there || right != there {
		t.Errorf("Mount under the key %s of %s = %s, %s, %v, and %s, %s, %v the next time, want %s, %s, %v", tellSeed(key), tell(d), tellBook(got), tellActs(acts), ok, tellBook(again), tellActs(more), right, tellBook(want), tellActs(mends), there)
	}
	if !stays() || givenKey != key {
		t.Errorf("Mount of %s writes into an argument", tell(d))
	}
	texts := append(textsOf(given), givenKey)
	expectOwnActs(t, "Mount", acts, more, texts...)
	expectOwnTexts(t, "Mount", append(textsOfBook(got), textsOfBook(again)...), texts...)
	if listsShare(got.Things, again.Things) {
		t.Error("Mount: the Things of two answers are one list")
	}
	spoil(given.Files[:cap(given.Files)], impl.File{Name: "spoilt"})
	spoil(more, impl.Act{Kind: impl.ActDrop, Name: "spoilt"})
	spoil(again.Things, impl.Thing{Id: 78})
	if !sameBook(got, want) || !slices.Equal(acts, mends) {
		t.Errorf("Mount of %s is another one when what was handed in, or another answer, is changed", tell(d))
	}
	if ok {
		expectMended(t, key, d, got, acts)
	} else if !isZeroBook(got) || len(acts) != 0 {
		t.Errorf("Mount of %s is false, with %s and %s beside it", tell(d), tellBook(got), tellActs(acts))
	}
	return got, acts, ok
}

func expectNotMounted(t *testing.T, what, key string, d impl.Disk) {
	t.Helper()
	if b, acts, ok := expectMount(t, key, d); ok || !isZeroBook(b) || len(acts) != 0 {
		t.Errorf("%s: Mount of %s = %s, %s, %v", what, tell(d), tellBook(b), tellActs(acts), ok)
	}
}

// besideBook are the files that have nothing to do with a book.
func besideBook(d impl.Disk) []impl.File {
	return slices.DeleteFunc(slices.Clone(d.Files), func(f impl.File) bool { return f.Name == "book" || f.Name == "book+" })
}

func isFullWithoutMended(d impl.Disk) bool {
	_, beside := impl.FileAt(d, "book+")
	return len(d.Files) == impl.MaxFiles && !beside
}

// expectMended: when the acts are done, no more are asked for, the book is the same, and no other file has changed.
func expectMended(t *testing.T, key string, d impl.Disk, b impl.Book, acts []impl.Act) {
	t.Helper()
	mended, done := impl.DoActs(d, acts)
	if done < len(acts) {
		// The chapter has one file more written, for which a full disk has no room.
		if !isFullWithoutMended(d) || done != 0 {
			t.Errorf("of the acts %s that mend %s %d are done", tellActs(acts), tell(d), done)
		}
		return
	}
	again, more, ok := impl.Mount(key, mended)
	if !ok || len(more) != 0 || !sameBook(again, b) {
		t.Errorf("mended, Mount of %s = %s, %s, %v, want %s", tell(mended), tellBook(again), tellActs(more), ok, tellBook(b))
	}
	if !slices.Equal(besideBook(mended), besideBook(d)) {
		t.Errorf("%s is mended to %s: other files have changed", tell(d), tell(mended))
	}
	text, there := impl.FileAt(mended, "book")
	_, beside := impl.FileAt(mended, "book+")
	if len(acts) > 0 && (!there || beside || !impl.AllKept(diskOf(mended.Files[slices.IndexFunc(mended.Files, isBook)]))) {
		t.Errorf("%s is mended to %s", tell(d), tell(mended))
	}
	if was, _ := impl.FileAt(d, "book"); !strings.HasPrefix(was, text) {
		t.Errorf("%s is mended to %s, whose book is no beginning of what it was", tell(d), tell(mended))
	}
}

func isBook(f impl.File) bool { return f.Name == "book" }

// leftOfAll tells of each file that so many bytes are left.
func leftOfAll(n int) []int {
	return slices.Repeat([]int{n}, impl.MaxFiles)
}

func bookCounts() []int {
	return []int{0, 1, 2, 126, 127, 128, 255, 256, 5000, 9998, 9999, 10000}
}

func noBookCounts() []int {
	return []int{math.MinInt, math.MinInt + 1, -1 << 32, -10000, -128, -2, -1, 10001, 10002, 10128, mostNumber - 1, mostNumber, mostNumber + 1, 1 << 32, math.MaxInt - 1, math.MaxInt}
}

// aLife are records of each Kind that a new book takes, in few and in many bytes.
func aLife() []impl.Rec {
	things := keptThings()
	return []impl.Rec{wordRec("word"), triesRec(1), thingRec(things[0]), thingRec(withNext(things[0], 6)), thingRec(withId(things[3], 2)), goneRec(1), triesRec(0)}
}

// What these tests know comes from another program, which was written down from the chapter by itself.
func TestKnownBookActs(t *testing.T) {
	if impl.NameBook != "book" {
		t.Errorf("NameBook = %q", impl.NameBook)
	}
	data := thingRec(impl.Thing{Id: 1, Kind: impl.KindData, Value: "v"})
	for _, c := range []struct {
		key   string
		count int
		rec   impl.Rec
		frame string
	}{
		{"k", 0, triesRec(1), "12bd822f5a4f745faaa715160a31c3e5c425bd645da8cc"},
		{"", 126, goneRec(1000), "135eae99593865ccb65dcb9e1aa2c6baafa86960ac7a7381"},
		{"k", 127, data, "17f2641485b9cca702c44318f245e15e67ffd964057735c8e6f2a8ef"},
		{strings.Repeat("a", 65), 9999, triesRec(1), "1211ae91f38907a88f16813d8a9f6a6f90c12f612bba43"},
		{strings.Repeat("\x00", 32), 10000, wordRec("word"), "3128ff18d3762231f26425d37bb0466bea01f3f9d752567efecb969af02ebad57edab9e08c2fa6b1220d8cd4078cbbea211237f066be"},
	} {
		want := []impl.Act{{Kind: impl.ActAdd, Name: "book", Text: bytesOf(t, c.frame)}, {Kind: impl.ActKeep, Name: "book"}}
		if got, ok := expectBookActs(t, c.key, c.count, c.rec); !ok || !slices.Equal(got, want) {
			t.Errorf("BookActs with count %d of %s = %s, %v, want %s", c.count, tellRec(c.rec), tellActs(got), ok, tellActs(want))
		}
	}
}

// knownBook is a file of four frames, of 54, 23, 28 and 23 bytes, with its key, its records and the Chain behind each.
func knownBook(t *testing.T) (file, key string, list []impl.Rec, chains []string) {
	file = bytesOf(t, "3104b48c885899456f5064816f53276fb10a8437c68ad693c584d51d7cea28d39d174a3bc0ff0709924fe9d6085bc68f6e42b641f76a"+
		"1264bd5c6a3b4c4ee7e5d37740837a9a6c9864ba02ce66"+"17787b51f4062238fef6ccde3821fa2c8cd3af50cc22a880e36b7a3d"+"123efbaeb1a807b4e2e9346001ceed95265313bd77d858")
	list = []impl.Rec{wordRec("word"), triesRec(1), thingRec(impl.Thing{Id: 1, Kind: impl.KindData, Value: "v"}), goneRec(1)}
	for _, figures := range []string{
		"0000000000000000000000000000000000000000000000000000000000000000", "031dbc5fa7a0a248750619fe344b03134a44a4a16d3a46e66fb7557b8ad20c9f",
		"89249feec8c7dce650b0ce2e0ba43f456e1fa1e9d3cc1a138a1d6a20377860f4", "b6d6c88ab0d24112235ae6228273c9a97e16d43bdda4a08759e68e79704f6cd9",
		"66a89c713e7d45754114c2710ad284a046ffef940d07322be119c5d7c5cac6d0",
	} {
		chains = append(chains, bytesOf(t, figures))
	}
	return file, digestByLibrary("key"), list, chains
}

func TestKnownBookOnADisk(t *testing.T) {
	file, key, list, chains := knownBook(t)
	for whole, end := range []int{0, 54, 77, 105, 128} {
		got, place := expectReadBook(t, key, file[:end])
		if !slices.Equal(got, list[:whole]) || place != end {
			t.Errorf("of the first %d bytes %s, %d are read", end, tellRecs(got), place)
		}
		b, acts, ok := expectMount(t, key, diskOf(keptFile("book", file[:end])))
		if !ok || len(acts) != 0 || b.Count != whole || b.Chain != chains[whole] {
			t.Errorf("of the first %d bytes comes %s, %s, %v", end, tellBook(b), tellActs(acts), ok)
		}
	}
	b, acts, ok := expectMount(t, key, diskOf(impl.File{Name: "book", Text: file[:127], Kept: 105}, keptFile("book+", file[:60])))
	want := []impl.Act{{Kind: 4, Name: "book+"}, {Kind: 1, Name: "book+", Text: file[:105]}, {Kind: 2, Name: "book+"}, {Kind: 3, Name: "book+", To: "book"}}
	if !ok || !slices.Equal(acts, want) || b.Count != 3 || b.Chain != chains[3] || len(b.Things) != 1 || b.Things[0].Value != "v" || b.Tries != 1 {
		t.Errorf("of a torn file comes %s, %s, %v", tellBook(b), tellActs(acts), ok)
	}
}

func TestBookActsOfRecordsOfEachKind(t *testing.T) {
	for i, r := range rightRecs() {
		for j, key := range sealKeys() {
			for k, count := range bookCounts() {
				if (i+j+k)%3 == 0 {
					expectBookActs(t, key, count, r)
				}
			}
		}
	}
	for _, r := range anyRecs() {
		if _, ok := expectBookActs(t, "k", 7, r); ok != modelRight(r) {
			t.Errorf("BookActs of %s: %v", tellRec(r), ok)
		}
	}
}

func TestBookActsAreTwoActs(t *testing.T) {
	for _, r := range rightRecs() {
		list, ok := impl.BookActs("a key", 12, r)
		if !ok || len(list) != 2 {
			t.Fatalf("BookActs of %s = %s, %v", tellRec(r), tellActs(list), ok)
		}
		if add := list[0]; add.Kind != impl.ActAdd || add.Name != impl.NameBook || add.To != "" {
			t.Errorf("the first act of %s is %s", tellRec(r), tellAct(add))
		}
		if keep := (impl.Act{Kind: impl.ActKeep, Name: impl.NameBook}); list[1] != keep {
			t.Errorf("the second act of %s is %s", tellRec(r), tellAct(list[1]))
		}
		disk, done := impl.DoActs(impl.Disk{}, list)
		if text, _ := impl.FileAt(disk, impl.NameBook); done != 2 || text != list[0].Text || !impl.AllKept(disk) {
			t.Errorf("the acts of %s make %s", tellRec(r), tell(disk))
		}
	}
}

func TestBookActsOfWrongCounts(t *testing.T) {
	for _, r := range append(fewRecs(), impl.Rec{}, impl.Rec{Kind: 1}, triesRec(4)) {
		for _, count := range noBookCounts() {
			for _, key := range sealKeys() {
				expectNoBookActs(t, key, count, r)
			}
		}
	}
	for count := -300; count <= 10300; count++ {
		acts, ok := impl.BookActs("k", count, triesRec(1))
		if right := count >= 0 && count <= 10000; ok != right || len(acts) > 0 != right {
			t.Errorf("BookActs with count %d = %s, %v", count, tellActs(acts), ok)
		}
	}
}

func TestBookActsOfRecordsThatAreNotRight(t *testing.T) {
	list := []impl.Rec{{}, {Kind: 1}, {Kind: 1, Text: textOf(31)}, {Kind: 1, Text: textOf(32), Num: 1}, {Kind: 2, Num: 4}, {Kind: 2, Num: -1}, {Kind: 2, Num: 1, Text: "v"}, {Kind: 3}, {Kind: 4}, {Kind: 4, Num: 1001}, {Kind: 5, Num: 1}, {Kind: -1}, {Kind: 257, Text: textOf(32)}}
	for _, x := range wrongThings(keptThings()[0]) {
		list = append(list, thingRec(x))
	}
	for _, r := range list {
		for _, key := range sealKeys() {
			for _, count := range []int{-1, 0, 5000, 10000, 10001} {
				expectNoBookActs(t, key, count, r)
			}
		}
	}
}

// The frame of a record opens under its key with its number, and under no other key and with no other number.
func TestBookActsOpenWithTheirNumberAlone(t *testing.T) {
	for i, key := range sealKeys() {
		for j, count := range bookCounts() {
			r := fewRecs()[(i+j)%len(fewRecs())]
			list, ok := expectBookActs(t, key, count, r)
			frames, end := impl.Unframe(list[0].Text)
			if !ok || len(frames) != 1 || end != len(list[0].Text) {
				t.Fatalf("BookActs adds %s", tellAct(list[0]))
			}
			text, opened := impl.OpenText(key, count+1, frames[0])
			if got, is := impl.ReadRec(text); !opened || !is || got != r {
				t.Errorf("the frame of %s opens as %s, %v", tellRec(r), tellRec(got), opened)
			}
			for _, num := range append(sealNumbers(), count-2, count-1, count, count+2, count+3, count+129, 10000, 10001) {
				if s, ok := impl.OpenText(key, num, frames[0]); ok && num != count+1 {
					t.Errorf("with count %d, the frame opens with number %d as %s", count, num, tellSeed(s))
				}
			}
			for _, other := range otherKeys(key) {
				if s, ok := impl.OpenText(other, count+1, frames[0]); ok {
					t.Errorf("the frame opens under another key as %s", tellSeed(s))
				}
			}
		}
	}
}

func TestBookActsOfUnlikeOnesAreUnlike(t *testing.T) {
	met := map[string]string{}
	for _, key := range sealKeys() {
		for _, count := range bookCounts() {
			for _, r := range fewRecs() {
				list, _ := impl.BookActs(key, count, r)
				from := fmt.Sprint(tellSeed(key), count, tellRec(r))
				if other, there := met[list[0].Text]; there {
					t.Errorf("%s and %s have one frame", from, other)
				}
				met[list[0].Text] = from
			}
		}
	}
}

// listsOfRecs are none, one and many; not all of them would be taken by a book, which ReadBook does not ask.
func listsOfRecs() [][]impl.Rec {
	lists := [][]impl.Rec{nil, {triesRec(0)}, {goneRec(7), goneRec(7)}, aLife(), fewRecs()}
	for _, r := range fewRecs() {
		lists = append(lists, []impl.Rec{r})
	}
	return append(lists, someLives()...)
}

func TestBooksAreRead(t *testing.T) {
	for _, key := range sealKeys() {
		for _, list := range listsOfRecs() {
			file := bookFile(key, list)
			if writtenBook(key, list) != file {
				t.Errorf("%s are written otherwise", tellRecs(list))
			}
			expectReadFirst(t, "as it was written", key, file, list, len(list))
		}
	}
	list := slices.Concat(rightRecs(), rightRecs())
	expectReadFirst(t, "of each sort, twice", "k", bookFile("k", list), list, len(list))
}

// frameAtPlace is which of the frames has the byte at this place, and so how many are whole ahead of it.
func frameAtPlace(frames []string, place int) int {
	for i, frame := range frames {
		if place -= len(frame); place < 0 {
			return i
		}
	}
	return len(frames)
}

func TestBooksCutAtEveryPlace(t *testing.T) {
	for _, list := range [][]impl.Rec{aLife(), fewRecs(), {triesRec(3)}, {triesRec(1), triesRec(1), triesRec(1)}} {
		frames := framesOfBook("k", list)
		file := strings.Join(frames, "")
		for cut := range len(file) + 1 {
			expectReadFirst(t, fmt.Sprint("cut at ", cut), "k", file[:cut], list, frameAtPlace(frames, cut))
		}
	}
}

func TestBooksWithOneByteTurned(t *testing.T) {
	short := []impl.Rec{triesRec(1), thingRec(keptThings()[2]), goneRec(300)}
	frames := framesOfBook("k", short)
	file := strings.Join(frames, "")
	for place := range len(file) {
		for mask := 1; mask < 256; mask++ {
			expectReadFirst(t, fmt.Sprintf("byte %d turned by %d", place, mask), "k", turnedByte(file, place, byte(mask)), short, frameAtPlace(frames, place))
		}
	}
	frames = framesOfBook("a key", aLife())
	file = strings.Join(frames, "")
	for place := range len(file) {
		for _, mask := range []byte{1, 16, 128, 255} {
			expectReadFirst(t, fmt.Sprintf("byte %d turned by %d", place, mask), "a key", turnedByte(file, place, mask), aLife(), frameAtPlace(frames, place))
		}
	}
}

// Of a locked text that is turned within a whole frame the sum is right, and it is no record all the same.
func TestBooksWithALockedTextTurned(t *testing.T) {
	list := aLife()
	frames := framesOfBook("k", list)
	for i, r := range list {
		locked := lockedUnder("k", modelVar(i+1), modelText(r))
		for place := range len(locked) {
			for _, mask := range []byte{1, 128} {
				turned := slices.Clone(frames)
				turned[i] = frameByBits(turnedByte(locked, place, mask))
				expectReadFirst(t, fmt.Sprintf("byte %d of the locked text %d turned", place, i), "k", strings.Join(turned, ""), list, i)
			}
			turned := slices.Clone(frames)
			turned[i] = frameByBits(locked[:place] + locked[place+1:])
			expectReadFirst(t, "a byte of a locked text left out", "k", strings.Join(turned, ""), list, i)
		}
	}
}

func TestBooksWithAByteMoreOrLess(t *testing.T) {
	list := aLife()
	frames := framesOfBook("k", list)
	file := strings.Join(frames, "")
	for place := range len(file) {
		whole := frameAtPlace(frames, place)
		for _, b := range []byte{0, 1, 18, 128, 255, file[place] + 1, file[place] - 1} {
			// Ahead of one that is like it, a byte may as well be said to be behind that one.
			if b != file[place] {
				expectReadFirst(t, fmt.Sprintf("a byte %d more at %d", b, place), "k", file[:place]+modelByte(int(b))+file[place:], list, whole)
			}
		}
		expectReadFirst(t, fmt.Sprint("without the byte at ", place), "k", file[:place]+file[place+1:], list, whole)
	}
	for b := range 256 {
		expectReadFirst(t, "a byte behind it", "k", file+modelByte(b), list, len(list))
		expectReadFirst(t, "a byte ahead of it", "k", modelByte(b)+file, list, 0)
	}
}

func TestBooksWithFramesInAnotherOrder(t *testing.T) {
	list := aLife()
	frames := framesOfBook("k", list)
	for i := range frames {
		if i < len(frames)-1 {
			expectReadFirst(t, fmt.Sprint("left out: ", i), "k", strings.Join(slices.Delete(slices.Clone(frames), i, i+1), ""), list, i)
		}
		expectReadFirst(t, fmt.Sprint("put twice: ", i), "k", strings.Join(slices.Insert(slices.Clone(frames), i, frames[i]), ""), list, i+1)
		for j := range i {
			turned := slices.Clone(frames)
			turned[i], turned[j] = turned[j], turned[i]
			expectReadFirst(t, fmt.Sprintf("turned about: %d and %d", i, j), "k", strings.Join(turned, ""), list, j)
			put := slices.Clone(frames)
			put[i] = frames[j]
			expectReadFirst(t, fmt.Sprintf("the frame %d in the place %d", j, i), "k", strings.Join(put, ""), list, i)
		}
	}
	slices.Reverse(frames)
	expectReadFirst(t, "the last one first", "k", strings.Join(frames, ""), list, 0)
}

// The record is the one that belongs there, but it was locked with the number of another place.
func TestBooksWithFramesOfAnotherPlace(t *testing.T) {
	list := aLife()
	for i, r := range list {
		for num := range 300 {
			if num == i+1 {
				continue
			}
			frames := framesOfBook("k", list)
			frames[i] = frameOf("k", num, modelText(r))
			expectReadFirst(t, fmt.Sprintf("the frame %d with number %d", i, num), "k", strings.Join(frames, ""), list, i)
		}
		for _, from := range []int{0, 2, 3, 128} {
			var frames []string
			for j, r := range list {
				frames = append(frames, frameOf("k", from+j, modelText(r)))
			}
			expectReadFirst(t, fmt.Sprint("numbered from ", from), "k", strings.Join(frames, ""), list, 0)
		}
	}
	same := slices.Repeat([]impl.Rec{triesRec(1)}, 5)
	expectReadFirst(t, "the same frame again and again", "k", strings.Repeat(frameOf("k", 1, "\x02\x01"), 5), same, 1)
	expectReadFirst(t, "the same record again and again", "k", bookFile("k", same), same, 5)
}

func TestBooksUnderAnotherKey(t *testing.T) {
	list := aLife()
	for _, key := range sealKeys() {
		file := bookFile(key, list)
		for _, other := range otherKeys(key) {
			expectReadFirst(t, "under another key", other, file, list, 0)
			for i, r := range list {
				frames := framesOfBook(key, list)
				frames[i] = frameOf(other, i+1, modelText(r))
				expectReadFirst(t, fmt.Sprintf("the frame %d under another key", i), key, strings.Join(frames, ""), list, i)
			}
			b, acts, ok := expectMount(t, other, diskOf(keptFile("book", file)))
			if !ok || !sameBook(b, impl.BookNew()) || !slices.Equal(acts, modelMends("", false)) {
				t.Errorf("Mount under another key = %s, %s, %v", tellBook(b), tellActs(acts), ok)
			}
		}
	}
}

// noRecTexts are texts that are no record's, and some that nearly are.
func noRecTexts() []string {
	word := digestByLibrary("word")
	list := []string{"", "\x00", "\x01", "\x02", "\x03", "\x04", "\x05", "\x02\x04", "\x02\x01\x00", "\x02\x80\x00", "\x04\x00", "\x04\xe9\x07", "\x05\x01", "\x01" + word[1:], "\x01" + word + "\x00", "\x01" + word + "\x01", word, "record", textOf(100), textOf(7000)}
	for _, x := range wrongThings(keptThings()[2]) {
		if x.Kind >= 0 && x.Kind < 256 && x.Id >= 0 && x.Next >= 0 && !modelThingOk(x) {
			list = append(list, "\x03"+thingBytes(x))
		}
	}
	return list
}

// noRecFrames are whole frames, or parts of them, that are no record's in this place.
func noRecFrames(num int) []string {
	var list []string
	for _, text := range noRecTexts() {
		list = append(list, frameOf("k", num, text))
		if text != "" {
			list = append(list, frameByBits(text))
		}
	}
	good := frameOf("k", num, "\x02\x01")
	locked := lockedUnder("k", modelVar(num), "\x02\x01")
	return append(list, frameByBits("\x02\x01"), frameOf("q", num, "\x02\x01"), frameOf("k", num-1, "\x02\x01"), frameOf("k", num+1, "\x02\x01"),
		locked, good[:len(good)-1], good[1:], frameByBits(good), frameByBits(locked[:15]), frameByBits(locked[:16]), frameByBits(textOf(16)), frameByBits(textOf(9000)), frameOf("k", num, textOf(8000)), frameByBits(locked+"\x00"), "\x00", "\n")
}

func TestBooksWithFramesThatAreNoRecords(t *testing.T) {
	list := aLife()
	for i := range list {
		for _, wrong := range noRecFrames(i + 1) {
			frames := framesOfBook("k", list)
			frames[i] = wrong
			expectReadFirst(t, fmt.Sprintf("%s in the place %d", tellSeed(wrong), i), "k", strings.Join(frames, ""), list, i)
		}
	}
	file := bookFile("k", list)
	for _, wrong := range noRecFrames(len(list) + 1) {
		for _, behind := range []string{wrong, wrong + wrong, wrong + frameOf("k", len(list)+1, "\x02\x01"), wrong + frameOf("k", len(list)+2, "\x02\x01")} {
			if len(file)+len(behind) > impl.MaxText {
				continue
			}
			expectReadFirst(t, "behind the end", "k", file+behind, list, len(list))
			b, acts, ok := expectMount(t, "k", diskOf(keptFile("book", file+behind)))
			if want, _ := modelEnterAll(modelBookNew(), list); !ok || !sameBook(b, want) || !slices.Equal(acts, modelMends(file, false)) {
				t.Errorf("with %s behind it comes %s, %s, %v", tellSeed(behind), tellBook(b), tellActs(acts), ok)
			}
		}
	}
	for _, wrong := range noRecFrames(1) {
		expectReadFirst(t, "alone", "k", wrong, list, 0)
	}
}

// fullBook has 848 records whose frames are MaxText bytes.
func fullBook() []impl.Rec {
	var list []impl.Rec
	for i := range 848 {
		if i%53 == 0 {
			list = append(list, wordRec(fmt.Sprint("word ", i)))
		} else {
			list = append(list, triesRec(i%4))
		}
	}
	return list
}

func TestBooksAtTheLimitOfFiles(t *testing.T) {
	list := fullBook()
	file := bookFile("k", list)
	if len(file) != impl.MaxText {
		t.Fatalf("the full file has %d bytes", len(file))
	}
	expectReadFirst(t, "full", "k", file, list, len(list))
	expectReadFirst(t, "full, with the last frame torn", "k", file[:len(file)-1], list, len(list)-1)
	for _, over := range []string{"\x00", frameOf("k", 849, "\x02\x01"), file} {
		expectReadFirst(t, "too long a file", "k", file+over, list, 0)
		expectNotMounted(t, "too long a file", "k", diskOf(impl.File{Name: "book", Text: file + over}))
	}
	b, acts, ok := expectMount(t, "k", diskOf(keptFile("book", file)))
	if !ok || len(acts) != 0 || b.Count != 848 {
		t.Errorf("of a full file comes %s, %s, %v", tellBook(b), tellActs(acts), ok)
	}
	less, acts, ok := expectMount(t, "k", diskOf(keptFile("book", file[:len(file)-1])))
	if !ok || !slices.Equal(acts, modelMends(file[:len(bookFile("k", list[:847]))], false)) || less.Count != 847 {
		t.Errorf("of a full file whose last frame is torn comes %s, %s, %v", tellBook(less), tellActs(acts), ok)
	}
	more, _ := impl.BookActs("k", 848, triesRec(0))
	if same, done := impl.DoActs(diskOf(keptFile("book", file)), more); done != 0 || !sameDisk(same, diskOf(keptFile("book", file))) {
		t.Errorf("of the acts of one record more %d are done", done)
	}
}

// otherFiles have names around those of a book.
func otherFiles() []impl.File {
	return []impl.File{keptFile("a", "12"), keptFile("boo", "book"), {Name: "book ", Text: "345", Kept: 1}, keptFile("book*", ""), keptFile("book++", "67"), keptFile("book,", bookFile("k", aLife())), {Name: "bool", Text: "890"}, keptFile("book\x00", "")}
}

// manyFiles are n of them.
func manyFiles(n int) []impl.File {
	return slices.Clone(filesUpTo(impl.MaxFiles)[:n])
}

// disksWith are disks that have this file as their book: alone, beside others, and in the midst of mending.
func disksWith(file string) []impl.Disk {
	book, torn, beside := keptFile("book", file), impl.File{Name: "book", Text: file}, keptFile("book+", bookFile("k", aLife()[:2]))
	return []impl.Disk{
		diskOf(book), diskOf(torn), diskOf(impl.File{Name: "book", Text: file, Kept: len(file) / 2}),
		diskWith(book, beside), diskWith(torn, beside), diskWith(book, keptFile("book+", "")), diskWith(book, impl.File{Name: "book+", Text: "rest", Kept: 2}), diskWith(book, keptFile("book+", mostText)),
		diskWith(book, otherFiles()...), diskWith(torn, append(otherFiles(), beside)...),
		diskWith(book, manyFiles(impl.MaxFiles-2)...), diskWith(book, manyFiles(impl.MaxFiles-1)...), diskWith(book, append(manyFiles(impl.MaxFiles-2), beside)...),
	}
}

func TestMountOfDisksWithoutABook(t *testing.T) {
	for _, key := range sealKeys() {
		for _, d := range []impl.Disk{{}, {Files: []impl.File{}}, diskWith(keptFile("book+", bookFile(key, aLife()))), diskWith(keptFile("z", "x"), otherFiles()...), diskOf(filesUpTo(impl.MaxFiles)...), diskOf(keptFile("Book", bookFile(key, aLife())))} {
			if b, acts, ok := expectMount(t, key, d); !ok || len(acts) != 0 || !sameBook(b, impl.BookNew()) {
				t.Errorf("Mount of %s = %s, %s, %v", tell(d), tellBook(b), tellActs(acts), ok)
			}
		}
	}
	for _, d := range rightDisks() {
		if b, acts, ok := expectMount(t, "k", d); !ok || len(acts) != 0 || !sameBook(b, impl.BookNew()) {
			t.Errorf("Mount of %s = %s, %s, %v", tell(d), tellBook(b), tellActs(acts), ok)
		}
	}
}

func TestMountOfEmptyBooks(t *testing.T) {
	for _, d := range disksWith("") {
		if b, acts, ok := expectMount(t, "k", d); !ok || len(acts) != 0 || !sameBook(b, impl.BookNew()) {
			t.Errorf("Mount of %s = %s, %s, %v", tell(d), tellBook(b), tellActs(acts), ok)
		}
	}
	for _, file := range []string{"x", "\x00", mostText, textOf(9000), frameByBits("x"), frameOf("k", 1, "x")} {
		for _, d := range disksWith(file) {
			_, beside := impl.FileAt(d, "book+")
			if b, acts, ok := expectMount(t, "k", d); !ok || !slices.Equal(acts, modelMends("", beside)) || !sameBook(b, impl.BookNew()) {
				t.Errorf("Mount of %s = %s, %s, %v", tell(d), tellBook(b), tellActs(acts), ok)
			}
		}
	}
}

func TestMountOfWholeBooks(t *testing.T) {
	for _, list := range someLives() {
		want, _ := modelEnterAll(modelBookNew(), list)
		for _, d := range disksWith(bookFile("k", list)) {
			b, acts, ok := expectMount(t, "k", d)
			if !ok || len(acts) != 0 || !sameBook(b, want) || !impl.ChainOk(b, list) {
				t.Errorf("Mount of %s = %s, %s, %v, want %s", tell(d), tellBook(b), tellActs(acts), ok, tellBook(want))
			}
		}
	}
	for _, key := range sealKeys() {
		b, acts, ok := expectMount(t, key, diskOf(keptFile("book", bookFile(key, aLife()))))
		if !ok || len(acts) != 0 || !impl.ChainOk(b, aLife()) {
			t.Errorf("Mount under the key %s = %s, %s, %v", tellSeed(key), tellBook(b), tellActs(acts), ok)
		}
	}
}

func TestMountOfBooksWhoseLastFrameIsCut(t *testing.T) {
	for _, list := range [][]impl.Rec{{triesRec(1)}, aLife(), aLife()[:3]} {
		last := len(list) - 1
		whole, file := bookFile("k", list[:last]), bookFile("k", list)
		want, _ := modelEnterAll(modelBookNew(), list[:last])
		for cut := len(whole) + 1; cut < len(file); cut++ {
			for _, d := range disksWith(file[:cut]) {
				_, beside := impl.FileAt(d, "book+")
				b, acts, ok := expectMount(t, "k", d)
				if !ok || !sameBook(b, want) || !slices.Equal(acts, modelMends(whole, beside)) {
					t.Errorf("cut at %d, Mount of %s = %s, %s, %v", cut, tell(d), tellBook(b), tellActs(acts), ok)
				}
			}
		}
	}
}

// A file that is cut or changed anywhere is mended to what it has of records.
func TestMountOfBooksThatAreChanged(t *testing.T) {
	list := aLife()
	frames := framesOfBook("k", list)
	file := strings.Join(frames, "")
	for place := range len(file) {
		whole := strings.Join(frames[:frameAtPlace(frames, place)], "")
		for _, changed := range []string{file[:place], turnedByte(file, place, 1), turnedByte(file, place, 255)} {
			_, acts, ok := expectMount(t, "k", diskOf(keptFile("book", changed)))
			if want := modelMends(whole, false); !ok || changed != whole && !slices.Equal(acts, want) || changed == whole && len(acts) != 0 {
				t.Errorf("changed at %d, Mount answers %s, %v", place, tellActs(acts), ok)
			}
		}
	}
}

func TestMountOfWrongDisks(t *testing.T) {
	whole, torn := bookFile("k", aLife()), bookFile("k", aLife())+"x"
	for _, d := range wrongDisks() {
		expectNotMounted(t, "a wrong disk", "k", d)
		for _, file := range []string{"", whole, torn} {
			expectNotMounted(t, "a wrong disk with a book", "k", diskOf(append(slices.Clone(d.Files), keptFile("book", file))...))
		}
	}
	for _, file := range []string{"", whole, torn} {
		book := keptFile("book", file)
		for _, d := range []impl.Disk{
			diskOf(book, book), diskOf(book, keptFile("book+", ""), keptFile("book+", "")), diskOf(book, keptFile("a", "")), diskOf(keptFile("book+", ""), book), diskOf(keptFile("", ""), book),
			diskOf(impl.File{Name: "book", Text: file, Kept: len(file) + 1}), diskOf(impl.File{Name: "book", Text: file, Kept: -1}), diskOf(book, keptFile("book+", overText)), diskOf(book, keptFile(overName, "")), diskWith(book, filesUpTo(impl.MaxFiles)...),
		} {
			expectNotMounted(t, "a wrong disk", "k", d)
		}
	}
}

// refusedLives are records of which a book takes all but the last one.
func refusedLives() [][]impl.Rec {
	things := keptThings()
	tree, kem, data := things[0], withId(things[1], 1), withId(things[2], 1)
	var full []impl.Rec
	for _, x := range things {
		full = append(full, thingRec(x))
	}
	lost := withHiddenFixed(data, true, true)
	return [][]impl.Rec{
		{goneRec(1)}, {triesRec(1), goneRec(1)}, {thingRec(things[1])}, {thingRec(withId(tree, 1000))},
		{thingRec(data), goneRec(1), thingRec(data)}, {thingRec(data), goneRec(1), goneRec(1)}, {thingRec(tree), goneRec(1), thingRec(withNext(tree, 16))},
		{thingRec(tree), thingRec(withNext(tree, 2))}, {thingRec(tree), thingRec(withNext(tree, 6)), thingRec(withNext(tree, 5))}, {thingRec(tree), thingRec(withNext(tree, 0))},
		{thingRec(lost), thingRec(withHiddenFixed(lost, false, true))}, {thingRec(lost), thingRec(withHiddenFixed(lost, true, false))}, {thingRec(lost), thingRec(data)},
		{thingRec(data), thingRec(withValue(data, "w"))}, {thingRec(data), thingRec(kem)}, {thingRec(kem), thingRec(withFlags(kem, 1))}, {thingRec(tree), thingRec(withFlags(tree, 1))}, {thingRec(withFlags(tree, 1)), thingRec(tree)},
		append(full, thingRec(withId(data, 9))), append(slices.Clone(full), goneRec(3), thingRec(withId(data, 10))), append(slices.Clone(full), goneRec(9)),
	}
}

// Of a file whose records are refused there is no book, whatever else it has; where the one that is refused is torn, there is.
func TestMountOfRecordsThatAreRefused(t *testing.T) {
	for _, list := range refusedLives() {
		last := len(list) - 1
		ahead, ok := modelEnterAll(modelBookNew(), list[:last])
		if _, refused := modelEnter(ahead, list[last]); !ok || refused {
			t.Fatalf("%s are not refused at the last one", tellRecs(list))
		}
		whole, file := bookFile("k", list[:last]), bookFile("k", list)
		expectReadFirst(t, "refused by a book", "k", file, list, len(list))
		next := frameOf("k", len(list)+1, "\x02\x01")
		for _, behind := range []string{"", "x", next, next[:10], next + "x"} {
			for _, d := range disksWith(file + behind) {
				expectNotMounted(t, "refused", "k", d)
			}
		}
		for cut := len(whole); cut < len(file); cut++ {
			d := diskOf(keptFile("book", file[:cut]))
			if b, acts, ok := expectMount(t, "k", d); !ok || !sameBook(b, ahead) || len(acts) > 0 != (cut > len(whole)) {
				t.Errorf("cut at %d, Mount of %s = %s, %s, %v", cut, tell(d), tellBook(b), tellActs(acts), ok)
			}
		}
	}
}

// A word has no Num, so that one with a Num is neither written nor read.
func TestWordsWithANumOnADisk(t *testing.T) {
	ahead := []impl.Rec{wordRec("word")}
	file := bookFile("k", ahead)
	want, _ := modelEnterAll(modelBookNew(), ahead)
	for num := range 200 {
		other := wordRec("another")
		other.Num = num
		if num > 0 {
			expectNoBookActs(t, "k", 1, other)
		}
		behind := frameOf("k", 2, "\x01"+other.Text+modelVar(num))
		b, acts, ok := expectMount(t, "k", diskOf(keptFile("book", file+behind)))
		if !ok || !sameBook(b, want) || !slices.Equal(acts, modelMends(file, false)) {
			t.Errorf("with a word that has the Num %d comes %s, %s, %v", num, tellBook(b), tellActs(acts), ok)
		}
	}
	if b, _, ok := expectMount(t, "k", diskOf(keptFile("book", bookFile("k", append(ahead, wordRec("another")))))); !ok || b.Word != digestByLibrary("another") {
		t.Errorf("with another word comes %s, %v", tellBook(b), ok)
	}
}

// expectFallsInMending: whenever the power goes while a disk of which all is kept is mended, the book stays the same.
func expectFallsInMending(t *testing.T, key string, d impl.Disk) {
	t.Helper()
	b, acts, ok := impl.Mount(key, d)
	if !ok || !impl.AllKept(d) {
		t.Fatalf("Mount of %s is false", tell(d))
	}
	for whole := range len(acts) + 1 {
		for _, left := range []int{-1, 0, 1, 22, 23, 60, impl.MaxText} {
			lost, right := impl.CutActs(d, acts, whole, leftOfAll(left))
			if again, _, good := expectMount(t, key, lost); !right || !good || !sameBook(again, b) {
				t.Errorf("behind %d acts of mending %s, %d left, comes %s, %v, want %s", whole, tell(d), left, tellBook(again), good, tellBook(b))
			}
		}
	}
}

func TestFallsInMending(t *testing.T) {
	list := aLife()
	whole := bookFile("k", list)
	for _, file := range []string{"x", whole, whole + "x", whole + frameOf("k", 8, "\x02\x01")[:22], whole[:60], whole + mostText[:9000]} {
		book := keptFile("book", file)
		for _, d := range []impl.Disk{diskOf(book), diskWith(book, keptFile("book+", whole)), diskWith(book, keptFile("book+", "rest")), diskWith(book, keptFile("a", "12"), keptFile("z", ""))} {
			expectFallsInMending(t, "k", d)
		}
	}
}

// expectFalls holds promise 22 of one record that is added to a disk without a fault, of which all is kept: whatever the power leaves, the book is the one ahead of it or the one behind it, and goes on from there.
func expectFalls(t *testing.T, key string, d impl.Disk, r impl.Rec) {
	t.Helper()
	ahead, mends, ok := impl.Mount(key, d)
	behind, entered := impl.Enter(ahead, r)
	acts, written := impl.BookActs(key, ahead.Count, r)
	if !ok || len(mends) != 0 || !entered || !written || !impl.AllKept(d) {
		t.Fatalf("%s is not added to %s", tellRec(r), tell(d))
	}
	was, _ := impl.FileAt(d, "book")
	full := len(was) + len(acts[0].Text)
	for whole := range len(acts) + 1 {
		for _, left := range append(leftAround(len(was), full), -1, 0, math.MinInt, math.MaxInt) {
			lost, right := impl.CutActs(d, acts, whole, leftOfAll(left))
			want := ahead
			if whole == 2 || whole == 1 && left >= full {
				want = behind
			}
			got, _, good := expectMount(t, key, lost)
			if !right || !good || !sameBook(got, want) {
				t.Errorf("behind %d acts of %s, %d left, comes %s, %v, want %s", whole, tellRec(r), left, tellBook(got), good, tellBook(want))
			}
			expectGoesOn(t, key, lost, got)
		}
	}
}

func leftAround(from, to int) []int {
	var list []int
	for left := max(from-2, 0); left <= to+2; left++ {
		list = append(list, left)
	}
	return list
}

// expectGoesOn: a disk behind a fall is mended, and takes the next record.
func expectGoesOn(t *testing.T, key string, lost impl.Disk, b impl.Book) {
	t.Helper()
	_, mends, _ := impl.Mount(key, lost)
	mended, _ := impl.DoActs(lost, mends)
	next, entered := impl.Enter(b, triesRec(2))
	acts, _ := impl.BookActs(key, b.Count, triesRec(2))
	more, done := impl.DoActs(mended, acts)
	if got, again, ok := impl.Mount(key, more); !entered || done != 2 || !ok || len(again) != 0 || !sameBook(got, next) {
		t.Errorf("behind %s, with a record more, comes %s, %s, %v", tellBook(b), tellBook(got), tellActs(again), ok)
	}
}

func TestFallsWhileRecordsAreAdded(t *testing.T) {
	for _, key := range []string{"", "k", textOf(65)} {
		for _, others := range [][]impl.File{nil, {keptFile("a", "12"), keptFile("z", "")}, {keptFile("book+", "rest")}} {
			if key == "k" {
				expectFalls(t, key, diskOf(others...), aLife()[0])
			}
			for i, r := range aLife() {
				expectFalls(t, key, diskWith(keptFile("book", bookFile(key, aLife()[:i])), others...), r)
			}
		}
	}
	var things []impl.Rec
	for _, x := range keptThings() {
		things = append(things, thingRec(x))
	}
	full := diskOf(keptFile("book", bookFile("k", things)))
	for _, r := range []impl.Rec{wordRec("another"), triesRec(3), goneRec(8), thingRec(withNext(keptThings()[0], 16)), thingRec(withHiddenFixed(keptThings()[3], true, true))} {
		expectFalls(t, "k", full, r)
	}
}

func TestRecordsAddedOneAfterAnother(t *testing.T) {
	for _, key := range sealKeys() {
		for _, list := range append(someLives(), aLife()) {
			d, b := impl.Disk{}, impl.BookNew()
			for i, r := range list {
				acts, ok := expectBookActs(t, key, b.Count, r)
				done := 0
				d, done = impl.DoActs(d, acts)
				want, entered := impl.Enter(b, r)
				got, mends, right := expectMount(t, key, d)
				if !ok || !entered || !right || done != 2 || len(mends) != 0 || !sameBook(got, want) || got.Count != i+1 {
					t.Fatalf("behind %s, the record %d, comes %s, %s, %v, want %s", tellRec(r), i, tellBook(got), tellActs(mends), right, tellBook(want))
				}
				b = got
			}
			file, _ := impl.FileAt(d, impl.NameBook)
			if read, end := expectReadBook(t, key, file); !slices.Equal(read, list) || end != len(file) || !impl.AllKept(d) {
				t.Errorf("of %s %s, %d are read", tellRecs(list), tellRecs(read), end)
			}
		}
	}
}

// A book takes records as long as its file has room; then no more are done, and nothing is lost.
func TestRecordsAddedUntilTheFileIsFull(t *testing.T) {
	d, b := impl.Disk{}, impl.BookNew()
	for i := range 10000 {
		r := triesRec(i % 4)
		acts, _ := impl.BookActs("k", b.Count, r)
		more, done := impl.DoActs(d, acts)
		if done == 0 {
			break
		}
		b, _ = impl.Enter(b, r)
		d = more
	}
	got, acts, ok := expectMount(t, "k", d)
	// A frame of tries has 23 bytes.
	if !ok || len(acts) != 0 || !sameBook(got, b) || b.Count != impl.MaxText/23 {
		t.Errorf("of the records that found room comes %s, %s, %v, want %s", tellBook(got), tellActs(acts), ok, tellBook(b))
	}
}

// On a full disk there is no room for a file beside the book: the acts are told all the same, as the chapter has it.
func TestMendingOnAFullDisk(t *testing.T) {
	list := aLife()
	whole := bookFile("k", list)
	torn := keptFile("book", whole+"x")
	full := diskWith(torn, manyFiles(impl.MaxFiles-1)...)
	b, acts, ok := expectMount(t, "k", full)
	if !ok || !slices.Equal(acts, modelMends(whole, false)) || b.Count != len(list) {
		t.Errorf("Mount of a full disk = %s, %s, %v", tellBook(b), tellActs(acts), ok)
	}
	if same, done := impl.DoActs(full, acts); done != 0 || !sameDisk(same, full) {
		t.Errorf("of the acts that mend a full disk %d are done", done)
	}
	room := diskWith(torn, append(manyFiles(impl.MaxFiles-2), keptFile("book+", "rest"))...)
	_, acts, _ = expectMount(t, "k", room)
	if mended, done := impl.DoActs(room, acts); done != 4 || len(mended.Files) != impl.MaxFiles-1 {
		t.Errorf("of the acts that mend a full disk with book+ %d are done", done)
	}
}

// drawnLife is a disk with a book whose records and falls are drawn.
type drawnLife struct {
	draw  *rand.Rand
	key   string
	disk  impl.Disk
	book  impl.Book
	falls map[string]int
}

// step adds a record that the book takes, and lets the power go at times.
func (l *drawnLife) step(t *testing.T) {
	r := drawRec(l.draw, l.book)
	behind, entered := impl.Enter(l.book, r)
	if !entered {
		return
	}
	acts, _ := impl.BookActs(l.key, l.book.Count, r)
	disk, done := impl.DoActs(l.disk, acts)
	if done == 0 {
		l.falls["no room"]++
		return
	}
	if l.draw.IntN(2) == 0 {
		was, _ := impl.FileAt(l.disk, "book")
		left := len(was) + l.draw.IntN(len(acts[0].Text)+1)
		if l.draw.IntN(4) == 0 {
			left = len(was) + len(acts[0].Text)
		}
		disk, _ = impl.CutActs(l.disk, acts, l.draw.IntN(3), leftOfAll(left))
	}
	got, mends, ok := expectMount(t, l.key, disk)
	switch {
	case ok && sameBook(got, l.book):
		l.falls["ahead"]++
	case ok && sameBook(got, behind):
		l.falls["behind"]++
	default:
		t.Fatalf("behind %s comes %s, %v, want %s or %s", tellRec(r), tellBook(got), ok, tellBook(l.book), tellBook(behind))
	}
	l.book = got
	l.mend(t, disk, mends)
}

// mend goes on until no fall comes in between.
func (l *drawnLife) mend(t *testing.T, disk impl.Disk, mends []impl.Act) {
	for len(mends) > 0 && l.draw.IntN(3) == 0 {
		l.falls["in mending"]++
		disk, _ = impl.CutActs(disk, mends, l.draw.IntN(len(mends)+1), leftOfAll(l.draw.IntN(200)))
		got, more, ok := expectMount(t, l.key, disk)
		if !ok || !sameBook(got, l.book) {
			t.Fatalf("behind a fall in mending comes %s, %v, want %s", tellBook(got), ok, tellBook(l.book))
		}
		mends = more
	}
	done := 0
	if l.disk, done = impl.DoActs(disk, mends); done != len(mends) {
		t.Fatalf("of the acts %s that mend %s %d are done", tellActs(mends), tell(disk), done)
	}
}

// Promise 22 in drawn lives.
func TestDrawnBooksOnADisk(t *testing.T) {
	draw := rand.New(rand.NewPCG(22, 1))
	falls := map[string]int{}
	for range 60 {
		l := &drawnLife{draw: draw, key: drawText(draw), book: impl.BookNew(), falls: falls}
		if draw.IntN(2) == 0 {
			l.disk = diskOf(keptFile("a", "12"), keptFile("zz", "34"))
		}
		for range 60 {
			l.step(t)
		}
	}
	if falls["ahead"] < 200 || falls["behind"] < 1000 || falls["in mending"] < 50 {
		t.Errorf("of the falls there were %v", falls)
	}
}

// drawFrames has some frames changed, as records of this place, of another one, of another key, or of none.
func drawFrames(draw *rand.Rand, key string, list []impl.Rec) string {
	frames := framesOfBook(key, list)
	for i := range frames {
		switch text := modelText(list[i]); draw.IntN(12) {
		case 0:
			frames[i] = frameOf(key, draw.IntN(len(list)+2), text)
		case 1:
			frames[i] = frameOf(drawText(draw), i+1, text)
		case 2:
			frames[i] = frameOf(key, i+1, drawChanged(draw, text))
		case 3:
			frames[i] = drawFile(draw, frames[i])
		}
	}
	return strings.Join(frames, "")
}

func TestDrawnFilesOfBooks(t *testing.T) {
	draw := rand.New(rand.NewPCG(22, 2))
	whole, torn, refused := 0, 0, 0
	for range 3000 {
		key, b := drawText(draw), impl.BookNew()
		var list []impl.Rec
		for range draw.IntN(8) {
			r := drawRec(draw, b)
			if next, ok := impl.Enter(b, r); ok {
				b = next
			} else if draw.IntN(4) > 0 || !modelRight(r) {
				continue
			}
			list = append(list, r)
		}
		file := drawFrames(draw, key, list)
		if draw.IntN(3) == 0 {
			file = drawFile(draw, file)
		}
		expectReadBook(t, key, file)
		d := drawDisk(draw)
		for i := range d.Files {
			if d.Files[i].Name == "book" {
				d.Files[i] = keptFile("book", file)
			}
		}
		switch _, acts, ok := expectMount(t, key, d); {
		case !ok:
			refused++
		case len(acts) > 0:
			torn++
		default:
			whole++
		}
	}
	if whole < 500 || torn < 500 || refused < 100 {
		t.Errorf("of the drawn disks %d are whole, %d torn and %d refused", whole, torn, refused)
	}
}

// Nothing is asked of a key: it may be of any length, and of any bytes.
func TestBooksUnderAnyKey(t *testing.T) {
	for _, key := range append(greatTexts(), keysAround()...) {
		acts, ok := expectBookActs(t, key, 0, triesRec(1))
		b, mends, right := expectMount(t, key, diskOf(keptFile("book", acts[0].Text)))
		if !ok || !right || len(mends) != 0 || b.Tries != 1 || b.Count != 1 {
			t.Errorf("under the key %s comes %s, %s, %v", tellSeed(key), tellBook(b), tellActs(mends), right)
		}
	}
}

func TestFilesThatAreNoBooks(t *testing.T) {
	for _, file := range append(greatTexts(), "", "\x00", "\xff", mostText, overText, strings.Repeat("\x80", 19999), strings.Repeat("\xff", 20000), framesByBits(recordsAround()[:8])) {
		for _, key := range []string{"", "k", file} {
			if got, end := expectReadBook(t, key, file); len(got) != 0 || end != 0 {
				t.Errorf("of %s %s, %d are read", tellSeed(file), tellRecs(got), end)
			}
			expectMount(t, key, diskOf(keptFile("book", file)))
		}
	}
}

// The key may be a piece of the file, and files may have one text.
func TestBooksWhoseKeyAndFileLieTogether(t *testing.T) {
	list := aLife()
	frames := bookFile("key of the book", list)
	whole := strings.Clone("key of the book" + frames + frames)
	was := strings.Clone(whole)
	key, file := whole[:15], whole[15:15+len(frames)]
	d := diskOf(keptFile("book", whole[15:]), keptFile("book+", file))
	read, end := impl.ReadBook(key, file)
	b, acts, ok := impl.Mount(key, d)
	if want, mends, there := modelMount(key, d); !slices.Equal(read, list) || end != len(file) || ok != there || !sameBook(b, want) || !slices.Equal(acts, mends) || len(acts) != 4 {
		t.Errorf("of pieces of a text come %s, %d; %s, %s, %v", tellRecs(read), end, tellBook(b), tellActs(acts), ok)
	}
	var texts []string
	for _, r := range read {
		texts = append(texts, r.Text, r.Thing.Value)
	}
	for _, a := range acts {
		texts = append(texts, a.Text)
	}
	expectOwnTexts(t, "pieces", append(texts, textsOfBook(b)...), whole)
	if whole != was {
		t.Error("an argument is written into")
	}
}

func TestBooksOnADiskAmongMany(t *testing.T) {
	list := aLife()
	shared := diskOf(keptFile("book", bookFile("k", list)+"x"), keptFile("book+", "rest"))
	want, mends, _ := modelMount("k", shared)
	var callers sync.WaitGroup
	for caller := range 8 {
		callers.Go(func() {
			draw := rand.New(rand.NewPCG(22, uint64(100+caller)))
			for range 100 {
				if b, acts, ok := impl.Mount("k", shared); !ok || !sameBook(b, want) || !slices.Equal(acts, mends) {
					t.Error("a book on a disk among many is another one")
				}
				key, count, r := drawText(draw), draw.IntN(10002), list[draw.IntN(len(list))]
				acts, ok := impl.BookActs(key, count, r)
				if expected, there := modelBookActs(key, count, r); ok != there || !slices.Equal(acts, expected) {
					t.Error("the acts of a record among many are others")
				}
				file := bookFile(key, list)
				if got, end := impl.ReadBook(key, file); !slices.Equal(got, list) || end != len(file) {
					t.Error("a file among many is read otherwise")
				}
			}
		})
	}
	callers.Wait()
}
