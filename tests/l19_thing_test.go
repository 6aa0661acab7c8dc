package tests

import (
	"fmt"
	"math"
	"math/rand/v2"
	"slices"
	"strings"
	"sync"
	"testing"

	"loop.example/g00186/impl"
)

const (
	mostId      = 1000
	thingKey    = 32
	mostData    = 100
	flagsByKind = 16
)

// idBytes are the forms of all Ids, made once, since the model of ReadThing goes through them for each text.
var idBytes = func() []string {
	var list []string
	for id := range mostId + 1 {
		list = append(list, modelVar(id))
	}
	return list
}()

func modelThingOk(x impl.Thing) bool {
	kem, tree, data := x.Kind == 1, x.Kind == 2, x.Kind == 3
	size := len(x.Value)
	return x.Id >= 1 && x.Id <= mostId &&
		(kem || tree || data) &&
		(data && size <= mostData || !data && size == thingKey) &&
		x.Next >= 0 && x.Next <= 16 && (tree || x.Next == 0) &&
		(tree || !x.Signs) && (kem || !x.Wraps)
}

func modelFlags(x impl.Thing) int {
	flags := 0
	for i, told := range []bool{x.Hidden, x.Fixed, x.Signs, x.Wraps} {
		if told {
			flags += []int{1, 2, 4, 8}[i]
		}
	}
	return flags
}

// thingBytes is the text of any thing, also of one that is not right.
func thingBytes(x impl.Thing) string {
	return modelVar(x.Id) + modelByte(x.Kind) + modelByte(modelFlags(x)) + modelVar(len(x.Value)) + x.Value + modelVar(x.Next)
}

func modelThingText(x impl.Thing) (string, bool) {
	if !modelThingOk(x) {
		return "", false
	}
	return thingBytes(x), true
}

// modelReadThing asks of every thing that could have this text, whether it is right and has it.
func modelReadThing(text string) (impl.Thing, bool) {
	for id := 1; id <= mostId; id++ {
		if !strings.HasPrefix(text, idBytes[id]) {
			continue
		}
		for size := range mostData + 1 {
			from := len(idBytes[id]) + 2 + 1
			if len(text) < from+size {
				break
			}
			for next := range 17 {
				x := withFlags(impl.Thing{Id: id, Kind: int(text[from-3]), Value: text[from : from+size], Next: next}, int(text[from-2]))
				if own, ok := modelThingText(x); ok && own == text {
					return x, true
				}
			}
		}
	}
	return impl.Thing{}, false
}

func modelPublicPart(x impl.Thing) string {
	switch {
	case modelThingOk(x) && x.Kind == 1:
		pair, _ := modelPairOf(x.Value)
		return pair.Public
	case modelThingOk(x) && x.Kind == 2:
		return modelHyperPublic(x.Value)
	}
	return ""
}

func withFlags(x impl.Thing, flags int) impl.Thing {
	x.Hidden, x.Fixed, x.Signs, x.Wraps = flags&1 > 0, flags&2 > 0, flags&4 > 0, flags&8 > 0
	return x
}

func withId(x impl.Thing, id int) impl.Thing {
	x.Id = id
	return x
}

func withKind(x impl.Thing, kind int) impl.Thing {
	x.Kind = kind
	return x
}

func withValue(x impl.Thing, value string) impl.Thing {
	x.Value = value
	return x
}

func withNext(x impl.Thing, next int) impl.Thing {
	x.Next = next
	return x
}

func tellThing(x impl.Thing) string {
	return fmt.Sprintf("the thing %d of kind %d with flags %d, Value of %s, Next %d", x.Id, x.Kind, modelFlags(x), tellSeed(x.Value), x.Next)
}

// ownThing is one like it whose Value lies in memory of its own.
func ownThing(x impl.Thing) impl.Thing {
	return withValue(x, strings.Clone(x.Value))
}

func expectThingOk(t *testing.T, x impl.Thing) bool {
	t.Helper()
	given := ownThing(x)
	got, again := impl.ThingOk(given), impl.ThingOk(given)
	if want := modelThingOk(x); got != want || again != want || given != x {
		t.Errorf("ThingOk of %s = %v, and %v the next time, want %v", tellThing(x), got, again, want)
	}
	return got
}

func expectThingText(t *testing.T, x impl.Thing) (string, bool) {
	t.Helper()
	given := ownThing(x)
	got, ok := impl.ThingText(given)
	again, right := impl.ThingText(given)
	if want, there := modelThingText(x); got != want || again != want || ok != there || right != there || given != x {
		t.Errorf("ThingText of %s = %x, %v, and %x, %v the next time, want %x, %v", tellThing(x), got, ok, again, right, want, there)
	}
	expectOwnTexts(t, "ThingText", []string{got, again}, given.Value)
	return got, ok
}

// expectReadThing holds as well that what is read is right and has that ThingText.
func expectReadThing(t *testing.T, text string) (impl.Thing, bool) {
	t.Helper()
	given := strings.Clone(text)
	got, ok := impl.ReadThing(given)
	again, right := impl.ReadThing(given)
	if want, there := modelReadThing(text); got != want || again != want || ok != there || right != there || given != text {
		t.Errorf("ReadThing of %x = %s, %v, and %s, %v the next time, want %s, %v", text, tellThing(got), ok, tellThing(again), right, tellThing(want), there)
	}
	expectOwnTexts(t, "ReadThing", []string{got.Value, again.Value}, given)
	if back, good := impl.ThingText(got); impl.ThingOk(got) != ok || good != ok || ok && back != text {
		t.Errorf("of %x %s, %v is read, which has the text %x, %v", text, tellThing(got), ok, back, good)
	}
	return got, ok
}

func expectPublicPart(t *testing.T, x impl.Thing) string {
	t.Helper()
	given := ownThing(x)
	got, again := impl.PublicPart(given), impl.PublicPart(given)
	if want := modelPublicPart(x); got != want || again != want || given != x {
		t.Errorf("PublicPart of %s = %s, and %s the next time, want %s", tellThing(x), tellSeed(got), tellSeed(again), tellSeed(want))
	}
	expectOwnTexts(t, "PublicPart", []string{got, again}, given.Value)
	return got
}

// expectPromise19 asks that a right thing is read from its text.
func expectPromise19(t *testing.T, x impl.Thing) string {
	t.Helper()
	right := expectThingOk(t, x)
	text, ok := expectThingText(t, x)
	if !right || !ok {
		t.Fatalf("%s is right, %v, and has the text %x, %v", tellThing(x), right, text, ok)
	}
	if read, there := expectReadThing(t, text); !there || read != x {
		t.Errorf("%s has the text %x, of which %s, %v is read", tellThing(x), text, tellThing(read), there)
	}
	return text
}

// expectWrongThing asks of a thing that is not right what is refused of it, and that the text that it would have is not read.
func expectWrongThing(t *testing.T, what string, x impl.Thing) {
	t.Helper()
	if expectThingOk(t, x) {
		t.Errorf("%s: ThingOk says that %s is right", what, tellThing(x))
	}
	if text, ok := expectThingText(t, x); text != "" || ok {
		t.Errorf("%s: %s has the text %x, %v", what, tellThing(x), text, ok)
	}
	if public := expectPublicPart(t, x); public != "" {
		t.Errorf("%s: %s has a public part of %s", what, tellThing(x), tellSeed(public))
	}
	// A Kind beyond a byte would be another one in a text.
	if x.Kind >= 0 && x.Kind < 256 {
		expectThingNotRead(t, what, thingBytes(x))
	}
}

func expectThingNotRead(t *testing.T, what, text string) {
	t.Helper()
	if x, ok := expectReadThing(t, text); x != (impl.Thing{}) || ok {
		t.Errorf("%s: of %x %s, %v is read", what, text, tellThing(x), ok)
	}
}

// expectEither asks of a thing either the promise or what is refused of wrong ones.
func expectEither(t *testing.T, what string, right bool, x impl.Thing) {
	t.Helper()
	if right {
		expectPromise19(t, x)
		return
	}
	expectWrongThing(t, what, x)
}

func thingTextOf(t *testing.T, x impl.Thing) string {
	t.Helper()
	text, ok := impl.ThingText(x)
	if !ok {
		t.Fatalf("%s has no text", tellThing(x))
	}
	return text
}

// plainThings are a right one of each Kind, without flags.
func plainThings() []impl.Thing {
	return []impl.Thing{
		{Id: 1, Kind: impl.KindKem, Value: textOf(32)},
		{Id: 2, Kind: impl.KindTree, Value: textOf(32), Next: 5},
		{Id: 3, Kind: impl.KindData, Value: textOf(32)},
	}
}

// rightThings have each flag that their Kind may have, and meet the limits.
func rightThings() []impl.Thing {
	var list []impl.Thing
	for flags := range flagsByKind {
		if flags&4 == 0 {
			list = append(list, withFlags(impl.Thing{Id: 1000, Kind: impl.KindKem, Value: strings.Repeat("\xff", 32)}, flags))
		}
		if flags&8 == 0 {
			list = append(list, withFlags(impl.Thing{Id: 127, Kind: impl.KindTree, Value: strings.Repeat("\x00", 32), Next: flags}, flags))
			list = append(list, withFlags(impl.Thing{Id: 128, Kind: impl.KindTree, Value: textOf(32), Next: impl.AllLeaves}, flags))
		}
		if flags&12 == 0 {
			list = append(list, withFlags(impl.Thing{Id: 255, Kind: impl.KindData, Value: textOf(100)}, flags))
			list = append(list, withFlags(impl.Thing{Id: 256, Kind: impl.KindData}, flags))
		}
	}
	return append(list, plainThings()...)
}

func idsAround() []int {
	return []int{-1 << 40, -1000, -1, 0, 1, 2, 127, 128, 999, 1000, 1001, 1 << 32}
}

func kindsAround() []int {
	return []int{math.MinInt, -3, -2, -1, 0, 1, 2, 3, 4, 5, 255, 256, 257, 258, 259, math.MaxInt}
}

func nextsAround() []int {
	return []int{math.MinInt, -16, -1, 0, 1, 15, 16, 17, 1 << 32, math.MaxInt}
}

func drawThing(draw *rand.Rand) impl.Thing {
	x := impl.Thing{Id: 1 + draw.IntN(mostId), Kind: 1 + draw.IntN(3), Hidden: draw.IntN(2) == 0, Fixed: draw.IntN(2) == 0, Value: drawBytes(draw, thingKey)}
	switch x.Kind {
	case impl.KindKem:
		x.Wraps = draw.IntN(2) == 0
	case impl.KindTree:
		x.Signs, x.Next = draw.IntN(2) == 0, draw.IntN(17)
	case impl.KindData:
		x.Value = drawBytes(draw, draw.IntN(mostData+1))
	}
	return x
}

// drawAnyThing is one that may be wrong in one field.
func drawAnyThing(draw *rand.Rand) impl.Thing {
	x := drawThing(draw)
	switch draw.IntN(6) {
	case 0:
		return withFlags(x, draw.IntN(flagsByKind))
	case 1:
		return withKind(x, draw.IntN(6)-1)
	case 2:
		return withNext(x, draw.IntN(20)-2)
	case 3:
		return withValue(x, drawBytes(draw, 30+draw.IntN(5)))
	case 4:
		return withId(x, draw.IntN(1100)-50)
	}
	return x
}

// What these tests know was written down by hand from the chapter.
func TestKnownThingTexts(t *testing.T) {
	zeros, ones := strings.Repeat("\x00", 32), strings.Repeat("\x01", 32)
	for _, c := range []struct {
		thing impl.Thing
		text  string
	}{
		{impl.Thing{Id: 1, Kind: impl.KindData}, "\x01\x03\x00\x00\x00"},
		{impl.Thing{Id: 1, Kind: impl.KindData, Hidden: true, Value: "v"}, "\x01\x03\x01\x01v\x00"},
		{impl.Thing{Id: 128, Kind: impl.KindData, Fixed: true, Value: "abc"}, "\x80\x01\x03\x02\x03abc\x00"},
		{impl.Thing{Id: 1000, Kind: impl.KindData, Hidden: true, Fixed: true, Value: "\x00"}, "\xe8\x07\x03\x03\x01\x00\x00"},
		{impl.Thing{Id: 127, Kind: impl.KindKem, Value: zeros}, "\x7f\x01\x00\x20" + zeros + "\x00"},
		{impl.Thing{Id: 2, Kind: impl.KindKem, Wraps: true, Value: ones}, "\x02\x01\x08\x20" + ones + "\x00"},
		{impl.Thing{Id: 2, Kind: impl.KindKem, Hidden: true, Fixed: true, Wraps: true, Value: ones}, "\x02\x01\x0b\x20" + ones + "\x00"},
		{impl.Thing{Id: 3, Kind: impl.KindTree, Value: ones}, "\x03\x02\x00\x20" + ones + "\x00"},
		{impl.Thing{Id: 3, Kind: impl.KindTree, Signs: true, Value: ones, Next: 1}, "\x03\x02\x04\x20" + ones + "\x01"},
		{impl.Thing{Id: 300, Kind: impl.KindTree, Hidden: true, Fixed: true, Signs: true, Value: zeros, Next: 16}, "\xac\x02\x02\x07\x20" + zeros + "\x10"},
	} {
		if got, ok := impl.ThingText(c.thing); got != c.text || !ok {
			t.Errorf("%s has the text %x, %v, want %x", tellThing(c.thing), got, ok, c.text)
		}
		if got, ok := impl.ReadThing(c.text); got != c.thing || !ok {
			t.Errorf("of %x %s, %v is read, want %s", c.text, tellThing(got), ok, tellThing(c.thing))
		}
	}
}

func TestLimitsOfThings(t *testing.T) {
	if impl.KindKem != 1 || impl.KindTree != 2 || impl.KindData != 3 || impl.MaxThings != 8 || impl.AllLeaves != 16 {
		t.Error("a constant of things is another one")
	}
}

// Promise 19, and all that is refused: every Kind with every flag, Id, size of its Value and Next.
func TestThingsOfEachSort(t *testing.T) {
	right := 0
	for _, kind := range []int{-1, 0, 1, 2, 3, 4} {
		for flags := range flagsByKind {
			for _, id := range []int{-1, 0, 1, 1000, 1001} {
				for _, size := range []int{0, 31, 32, 33, 100, 101} {
					for _, next := range []int{-1, 0, 1, 16, 17} {
						x := withFlags(impl.Thing{Id: id, Kind: kind, Value: textOf(size), Next: next}, flags)
						text, ok := expectThingText(t, x)
						if expectThingOk(t, x) != ok {
							t.Errorf("ThingOk and ThingText are not of one mind about %s", tellThing(x))
						}
						if !ok {
							continue
						}
						right++
						if read, there := expectReadThing(t, text); !there || read != x {
							t.Errorf("%s has the text %x, of which %s, %v is read", tellThing(x), text, tellThing(read), there)
						}
					}
				}
			}
		}
	}
	// Of each of two Ids: of KindKem 8 sets of flags; of KindTree 8 with each of three Nexts; of KindData 4 with each of five sizes.
	if want := 2 * (8 + 8*3 + 4*5); right != want {
		t.Errorf("%d of the things are right, want %d", right, want)
	}
}

func TestFlagsOfEachKind(t *testing.T) {
	for _, x := range plainThings() {
		for flags := range flagsByKind {
			signs, wraps := flags&4 > 0, flags&8 > 0
			right := (!signs || x.Kind == impl.KindTree) && (!wraps || x.Kind == impl.KindKem)
			expectEither(t, "a flag of another kind", right, withFlags(x, flags))
		}
	}
}

func TestKindsOfThings(t *testing.T) {
	for _, x := range rightThings() {
		for _, kind := range kindsAround() {
			if kind < impl.KindKem || kind > impl.KindData {
				expectWrongThing(t, "no kind", withKind(x, kind))
				continue
			}
			expectThingOk(t, withKind(x, kind))
			expectThingText(t, withKind(x, kind))
		}
	}
	for _, kind := range kindsAround() {
		for _, value := range []string{"", textOf(32)} {
			x := impl.Thing{Id: 1, Kind: kind, Value: value}
			expectEither(t, "kinds", kind == 3 || value != "" && (kind == 1 || kind == 2), x)
		}
	}
}

func TestIdsOfThings(t *testing.T) {
	for _, x := range rightThings() {
		for _, id := range idsAround() {
			expectEither(t, "an Id beyond its limits", id >= 1 && id <= mostId, withId(x, id))
		}
	}
	for _, x := range plainThings() {
		for id := 1; id <= mostId; id++ {
			expectPromise19(t, withId(x, id))
		}
		for id := mostId + 1; id < 3*mostId; id++ {
			expectWrongThing(t, "an Id above 1000", withId(x, id))
			expectWrongThing(t, "an Id below 0", withId(x, -id))
		}
		for _, id := range []int{math.MinInt, math.MinInt + 1, -1 << 32, 1<<32 + 1, 65537, mostNumber, mostNumber + 1, math.MaxInt} {
			expectWrongThing(t, "a great Id", withId(x, id))
		}
	}
}

func TestValuesOfThings(t *testing.T) {
	for _, x := range plainThings() {
		for size := range 300 {
			right := size == thingKey || x.Kind == impl.KindData && size <= mostData
			for _, value := range []string{textOf(size), strings.Repeat("\x00", size), strings.Repeat("\xff", size)} {
				expectEither(t, "a Value of another length", right, withValue(x, value))
			}
		}
		for _, great := range append(greatTexts(), textOf(256+32), textOf(1<<16+32), textOf(1<<16+100)) {
			expectWrongThing(t, "a great Value", withValue(x, great))
		}
	}
}

func TestNextsOfThings(t *testing.T) {
	for _, x := range rightThings() {
		for _, next := range nextsAround() {
			right := next == 0 || x.Kind == impl.KindTree && next >= 0 && next <= 16
			expectEither(t, "a Next beyond its limits", right, withNext(x, next))
		}
	}
	for _, x := range plainThings() {
		for next := -300; next <= 300; next++ {
			right := next == 0 || x.Kind == impl.KindTree && next >= 0 && next <= 16
			expectEither(t, "a Next beyond its limits", right, withNext(x, next))
		}
	}
}

func TestDrawnThingsComeBack(t *testing.T) {
	draw := rand.New(rand.NewPCG(19, 1))
	for range 3000 {
		expectPromise19(t, drawThing(draw))
	}
}

func TestDrawnThingsOfAnySort(t *testing.T) {
	draw := rand.New(rand.NewPCG(19, 2))
	right, wrong := 0, 0
	for range 5000 {
		x := drawAnyThing(draw)
		if modelThingOk(x) {
			right++
		} else {
			wrong++
		}
		expectEither(t, "drawn", modelThingOk(x), x)
	}
	if right < 1000 || wrong < 1000 {
		t.Errorf("of the drawn things %d are right, and %d wrong", right, wrong)
	}
}

func TestTextsOfUnlikeThingsAreUnlike(t *testing.T) {
	met := map[string]impl.Thing{}
	meet := func(x impl.Thing) {
		text := thingTextOf(t, x)
		if other, there := met[text]; there && other != x {
			t.Errorf("%s and %s have one text", tellThing(x), tellThing(other))
		}
		met[text] = x
	}
	for _, x := range rightThings() {
		meet(x)
		for id := 1; id <= mostId; id++ {
			meet(withId(x, id))
		}
	}
	for size := range mostData + 1 {
		for _, b := range []string{"\x00", "\x01", "\xff"} {
			meet(impl.Thing{Id: 1, Kind: impl.KindData, Value: strings.Repeat(b, size)})
		}
	}
	for next := range 17 {
		meet(withNext(plainThings()[1], next))
	}
}

func TestThingTextsThatAreCut(t *testing.T) {
	for _, x := range rightThings() {
		text := expectPromise19(t, x)
		for size := range len(text) {
			expectThingNotRead(t, fmt.Sprint("cut at ", size), text[:size])
			for _, changed := range []string{text[size+1:], text[:size] + text[size+1:], text[:size] + text[size:size+1] + text[size:]} {
				if got, _ := expectReadThing(t, changed); got == x {
					t.Errorf("of %x, a text cut at %d, %s is read", changed, size, tellThing(got))
				}
			}
		}
		for b := range 256 {
			expectThingNotRead(t, fmt.Sprint("with a byte ", b, " behind it"), text+modelByte(b))
			if got, _ := expectReadThing(t, modelByte(b)+text); got == x {
				t.Errorf("with a byte %d ahead of it, %s is read", b, tellThing(got))
			}
		}
		for _, more := range []string{"\x00\x00", "abc", textOf(100), text, textOf(impl.MaxText)} {
			expectThingNotRead(t, fmt.Sprintf("with %d bytes behind it", len(more)), text+more)
		}
	}
}

func TestThingTextsWithOneByteTurned(t *testing.T) {
	list := append(plainThings(), withFlags(impl.Thing{Id: 1000, Kind: impl.KindTree, Value: textOf(32), Next: 16}, 7), withFlags(impl.Thing{Id: 128, Kind: impl.KindKem, Value: textOf(32)}, 11), impl.Thing{Id: 129, Kind: impl.KindData, Value: textOf(100)}, impl.Thing{Id: 1, Kind: impl.KindData})
	for _, x := range list {
		text := expectPromise19(t, x)
		for at := range len(text) {
			for mask := 1; mask < 256; mask++ {
				if got, ok := expectReadThing(t, turnedByte(text, at, byte(mask))); got == x {
					t.Errorf("with byte %d turned by %d, %s, %v is read", at, mask, tellThing(got), ok)
				}
			}
		}
	}
}

// placeOfKind is where the byte of its Kind stands in a thing's text, behind its Id.
func placeOfKind(x impl.Thing) int {
	return len(modelVar(x.Id))
}

func TestKindBytesInThingTexts(t *testing.T) {
	for _, x := range rightThings() {
		text := thingTextOf(t, x)
		at := placeOfKind(x)
		for kind := range 256 {
			changed := text[:at] + modelByte(kind) + text[at+1:]
			if right := modelThingOk(withKind(x, kind)); !right {
				expectThingNotRead(t, fmt.Sprint("kind ", kind), changed)
			} else if got, ok := expectReadThing(t, changed); !ok || got != withKind(x, kind) {
				t.Errorf("with kind %d of %s %s, %v is read", kind, tellThing(x), tellThing(got), ok)
			}
		}
		for _, kind := range []int{0, 4, 255} {
			expectThingNotRead(t, fmt.Sprint("kind ", kind), text[:at]+modelByte(kind)+text[at+1:])
		}
	}
}

func TestFlagBytesInThingTexts(t *testing.T) {
	may := map[int][]int{impl.KindKem: {0, 1, 2, 3, 8, 9, 10, 11}, impl.KindTree: {0, 1, 2, 3, 4, 5, 6, 7}, impl.KindData: {0, 1, 2, 3}}
	for _, x := range rightThings() {
		text := thingTextOf(t, x)
		at := placeOfKind(x) + 1
		for flags := range 256 {
			changed := text[:at] + modelByte(flags) + text[at+1:]
			if !slices.Contains(may[x.Kind], flags) {
				expectThingNotRead(t, fmt.Sprint("flags ", flags), changed)
			} else if got, ok := expectReadThing(t, changed); !ok || got != withFlags(x, flags) {
				t.Errorf("with flags %d of %s %s, %v is read", flags, tellThing(x), tellThing(got), ok)
			}
		}
	}
}

// longerForms are other bytes for a number than its VarText: with bytes behind it that add nothing.
func longerForms(n int) []string {
	var list []string
	form := modelVar(n)
	for range 6 {
		form = form[:len(form)-1] + modelByte(int(form[len(form)-1])+128) + "\x00"
		list = append(list, form)
	}
	return list
}

func TestNumbersInMoreBytesInThingTexts(t *testing.T) {
	for _, x := range rightThings() {
		text := thingTextOf(t, x)
		id, size, next := modelVar(x.Id), modelVar(len(x.Value)), modelVar(x.Next)
		head := text[len(id) : len(id)+2]
		if text != id+head+size+x.Value+next {
			t.Fatalf("%s has the text %x", tellThing(x), text)
		}
		for _, longer := range longerForms(x.Id) {
			expectThingNotRead(t, "an Id in more bytes", longer+text[len(id):])
		}
		for _, longer := range longerForms(len(x.Value)) {
			expectThingNotRead(t, "a length in more bytes", id+head+longer+x.Value+next)
		}
		for _, longer := range longerForms(x.Next) {
			expectThingNotRead(t, "a Next in more bytes", id+head+size+x.Value+longer)
		}
		for _, broken := range []string{"", "\x80", "\xff", strings.Repeat("\xff", 20)} {
			expectThingNotRead(t, "an Id that does not end", broken)
			expectThingNotRead(t, "a length that does not end", id+head+broken)
			expectThingNotRead(t, "a Next that does not end", id+head+size+x.Value+broken)
		}
	}
}

func TestIdsInThingTexts(t *testing.T) {
	for _, x := range rightThings() {
		behind := thingTextOf(t, x)[placeOfKind(x):]
		for id := range 2 * mostId {
			if id < 1 || id > mostId {
				expectThingNotRead(t, fmt.Sprint("Id ", id), modelVar(id)+behind)
			} else if got, ok := impl.ReadThing(modelVar(id) + behind); !ok || got != withId(x, id) {
				t.Errorf("with Id %d of %s %s, %v is read", id, tellThing(x), tellThing(got), ok)
			}
		}
		for _, id := range []int{16383, 16384, 65537, mostNumber, mostNumber + 1, 1<<32 + 1, math.MaxInt} {
			expectThingNotRead(t, fmt.Sprint("Id ", id), modelVar(id)+behind)
		}
	}
}

func TestLengthsInThingTexts(t *testing.T) {
	for _, x := range rightThings() {
		text := thingTextOf(t, x)
		head, behind := text[:placeOfKind(x)+2], x.Value+modelVar(x.Next)
		for _, length := range []int{len(behind), len(behind) + 1, len(behind) + 2, 101, 102, 127, 128, 255, 256, 16384, impl.MaxText, impl.MaxText + 1, mostNumber, mostNumber + 1, 1 << 32, math.MaxInt} {
			expectThingNotRead(t, fmt.Sprint("length ", length), head+modelVar(length)+behind)
		}
		for length := range 256 {
			got, ok := expectReadThing(t, head+modelVar(length)+behind)
			if length != len(x.Value) && got == x || length > len(x.Value) && ok {
				t.Errorf("with length %d of %s %s, %v is read", length, tellThing(x), tellThing(got), ok)
			}
		}
	}
}

func TestValuesOfAnotherLengthInThingTexts(t *testing.T) {
	for _, x := range rightThings() {
		for size := range 140 {
			changed := withValue(x, textOf(size))
			if size == thingKey || x.Kind == impl.KindData && size <= mostData {
				expectPromise19(t, changed)
				continue
			}
			expectThingNotRead(t, fmt.Sprint("a Value of ", size), thingBytes(changed))
		}
		expectThingNotRead(t, "a great Value", thingBytes(withValue(x, textOf(impl.MaxText))))
		expectThingNotRead(t, "a great Value", thingBytes(withValue(x, textOf(impl.MaxText+1))))
	}
}

func TestNextsInThingTexts(t *testing.T) {
	for _, x := range rightThings() {
		text := thingTextOf(t, x)
		ahead := text[:len(text)-1]
		for _, next := range []int{17, 18, 127, 128, 255, 256, 16383, 16384, 65536, mostNumber, mostNumber + 1, 1 << 32, math.MaxInt} {
			expectThingNotRead(t, fmt.Sprint("Next ", next), ahead+modelVar(next))
		}
		for next := 1; next <= 16; next++ {
			if x.Kind != impl.KindTree {
				expectThingNotRead(t, fmt.Sprint("Next ", next), ahead+modelVar(next))
			} else if got, ok := expectReadThing(t, ahead+modelVar(next)); !ok || got != withNext(x, next) {
				t.Errorf("with Next %d of %s %s, %v is read", next, tellThing(x), tellThing(got), ok)
			}
		}
		expectThingNotRead(t, "without its Next", ahead)
	}
}

func TestTextsThatAreNoThings(t *testing.T) {
	expectThingNotRead(t, "the empty text", "")
	for size := range 300 {
		for b := range 5 {
			expectReadThing(t, strings.Repeat(modelByte(b), size))
		}
		expectReadThing(t, textOf(size))
		expectThingNotRead(t, "bytes 255", strings.Repeat("\xff", size))
		expectThingNotRead(t, "bytes 0", strings.Repeat("\x00", size))
	}
	for _, great := range append(greatTexts(), strings.Repeat("\x01", 30000), strings.Repeat("\x03", 30000)) {
		expectThingNotRead(t, "a great text", great)
	}
	for _, x := range rightThings() {
		figures, _ := impl.Hex(thingTextOf(t, x))
		expectThingNotRead(t, "in figures", figures)
		sealed, _ := impl.Sealed(thingTextOf(t, x))
		expectThingNotRead(t, "sealed", sealed)
	}
}

// Every text of up to two bytes, and every one of three with a right Id and Kind at its beginning.
func TestShortTextsThatAreNoThings(t *testing.T) {
	for a := range 256 {
		expectThingNotRead(t, "one byte", modelByte(a))
		for b := range 256 {
			text := modelByte(a) + modelByte(b)
			if x, ok := impl.ReadThing(text); x != (impl.Thing{}) || ok {
				t.Errorf("of %x %s, %v is read", text, tellThing(x), ok)
			}
			for kind := range 5 {
				for _, short := range []string{"\x01" + modelByte(kind) + text, "\x80\x01" + modelByte(kind) + text} {
					if x, ok := impl.ReadThing(short); x != (impl.Thing{}) || ok {
						t.Errorf("of %x %s, %v is read", short, tellThing(x), ok)
					}
				}
			}
		}
	}
}

// drawChanged is the text as it is, with a byte turned or bytes put in or left out, or another text altogether.
func drawChanged(draw *rand.Rand, text string) string {
	switch draw.IntN(4) {
	case 0:
		return turnedByte(text, draw.IntN(len(text)), 1<<draw.IntN(8))
	case 1:
		at := draw.IntN(len(text))
		return text[:at] + drawBytes(draw, draw.IntN(3)) + text[at+draw.IntN(2):]
	case 2:
		return drawBytes(draw, draw.IntN(50))
	}
	return text
}

func TestDrawnTextsOfThings(t *testing.T) {
	draw := rand.New(rand.NewPCG(19, 3))
	read, refused := 0, 0
	for range 20000 {
		text := drawChanged(draw, thingBytes(drawThing(draw)))
		if _, ok := expectReadThing(t, text); ok {
			read++
		} else {
			refused++
		}
	}
	if read < 5000 || refused < 5000 {
		t.Errorf("of the drawn texts %d are read, and %d refused", read, refused)
	}
}

func TestPublicPartsOfKems(t *testing.T) {
	for _, value := range kemTexts() {
		pair, ok := impl.PairOf(value)
		for _, flags := range []int{0, 1, 2, 8, 11} {
			x := withFlags(impl.Thing{Id: 1 + flags, Kind: impl.KindKem, Value: value}, flags)
			if public := expectPublicPart(t, x); !ok || public != pair.Public || !impl.PublicOk(public) {
				t.Errorf("%s has the public part %s", tellThing(x), tellSeed(public))
			}
		}
	}
}

func TestPublicPartsOfTrees(t *testing.T) {
	for _, value := range kemTexts() {
		for _, next := range []int{0, 1, 16} {
			x := withFlags(impl.Thing{Id: 1000, Kind: impl.KindTree, Value: value, Next: next}, next%8)
			public := expectPublicPart(t, x)
			if public != impl.HyperPublic(value) || len(public) != impl.Short {
				t.Errorf("%s has the public part %x", tellThing(x), public)
			}
			h, ok := impl.HyperSign(value, 15-next%16, "m")
			if !ok || !impl.HyperCheck(public, "m", h) {
				t.Errorf("by the public part of %s no signature of its Value is right", tellThing(x))
			}
		}
	}
}

func TestDataHasNoPublicPart(t *testing.T) {
	for flags := range 4 {
		for _, value := range append(kemTexts(), "", "v", textOf(31), textOf(33), textOf(100)) {
			x := withFlags(impl.Thing{Id: 1, Kind: impl.KindData, Value: value}, flags)
			if public := expectPublicPart(t, x); public != "" || !impl.ThingOk(x) {
				t.Errorf("%s has the public part %s", tellThing(x), tellSeed(public))
			}
		}
	}
}

// The Value alone would have a public part, but the thing is not right.
func TestWrongThingsHaveNoPublicPart(t *testing.T) {
	for _, x := range plainThings() {
		for _, wrong := range []impl.Thing{{}, withId(x, 0), withId(x, 1001), withId(x, -1), withKind(x, 0), withKind(x, 4), withKind(x, -1), withKind(x, x.Kind+256), withNext(x, -1), withNext(x, 17), withValue(x, textOf(101)), withFlags(x, 12), withFlags(x, 15)} {
			expectWrongThing(t, "no public part", wrong)
		}
	}
	kem, tree := plainThings()[0], plainThings()[1]
	for _, wrong := range []impl.Thing{withNext(kem, 1), withFlags(kem, 4), withFlags(tree, 8), withValue(kem, ""), withValue(tree, ""), withValue(kem, textOf(31)), withValue(tree, textOf(31)), withValue(kem, textOf(33)), withValue(tree, textOf(33)), withValue(kem, textOf(64)), withValue(tree, textOf(100))} {
		expectWrongThing(t, "no public part", wrong)
	}
}

func TestDrawnPublicParts(t *testing.T) {
	draw := rand.New(rand.NewPCG(19, 4))
	for range 300 {
		x := drawThing(draw)
		public := expectPublicPart(t, x)
		pair, _ := impl.PairOf(x.Value)
		if want := map[int]string{impl.KindKem: pair.Public, impl.KindTree: impl.HyperPublic(x.Value)}[x.Kind]; public != want {
			t.Errorf("%s has the public part %s", tellThing(x), tellSeed(public))
		}
	}
}

// The Value may be a piece of a text, and the text a piece of another.
func TestThingsWhoseTextsLieTogether(t *testing.T) {
	whole := strings.Clone(textOf(50) + "\x01\x03\x01\x05value\x00" + textOf(50))
	was := strings.Clone(whole)
	x, ok := impl.ReadThing(whole[50:60])
	if want := (impl.Thing{Id: 1, Kind: impl.KindData, Hidden: true, Value: "value"}); !ok || x != want {
		t.Errorf("of a piece of a text %s, %v is read", tellThing(x), ok)
	}
	expectOwnTexts(t, "ReadThing", []string{x.Value}, whole)
	for _, kind := range []int{impl.KindKem, impl.KindTree, impl.KindData} {
		piece := impl.Thing{Id: 7, Kind: kind, Value: whole[3:35]}
		text, right := impl.ThingText(piece)
		public := impl.PublicPart(piece)
		if want, _ := modelThingText(piece); !right || text != want || public != modelPublicPart(piece) {
			t.Errorf("%s has the text %x, %v", tellThing(piece), text, right)
		}
		expectOwnTexts(t, "pieces", []string{text, public}, whole)
	}
	if whole != was {
		t.Error("an argument is written into")
	}
}

func TestThingsAmongMany(t *testing.T) {
	var callers sync.WaitGroup
	for caller := range 8 {
		callers.Go(func() {
			draw := rand.New(rand.NewPCG(19, uint64(100+caller)))
			for range 200 {
				x := drawThing(draw)
				text, ok := impl.ThingText(x)
				read, right := impl.ReadThing(text)
				if want, _ := modelThingText(x); !ok || !right || !impl.ThingOk(x) || text != want || read != x {
					t.Error("a thing among many does not come back")
				}
				if _, wrong := impl.ReadThing(text + "\x00"); wrong {
					t.Error("a wrong text among many is read")
				}
			}
			if x := (impl.Thing{Id: 1, Kind: impl.KindTree, Value: textOf(32)}); impl.PublicPart(x) != modelPublicPart(x) {
				t.Error("a public part among many is another one")
			}
		})
	}
	callers.Wait()
}
