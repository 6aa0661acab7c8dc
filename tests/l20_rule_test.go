package tests

import (
	"fmt"
	"math"
	"math/rand/v2"
	"strings"
	"sync"
	"testing"

	"loop.example/g00186/impl"
)

// changePairs are what Change may be told of hidden and fixed.
var changePairs = [][2]bool{{false, false}, {false, true}, {true, false}, {true, true}}

func modelMay(x impl.Thing, do int) bool {
	switch {
	case !modelThingOk(x):
		return false
	case do == 1:
		return !x.Hidden
	case do == 2:
		return !x.Fixed && x.Kind != 2
	case do == 3:
		return x.Signs
	case do == 4:
		return x.Wraps
	case do == 5:
		return true
	}
	return false
}

func modelChange(x impl.Thing, hidden, fixed bool) (impl.Thing, bool) {
	if !modelThingOk(x) {
		return impl.Thing{}, false
	}
	if x.Hidden && !hidden {
		return impl.Thing{}, false
	}
	if x.Fixed && !fixed {
		return impl.Thing{}, false
	}
	return impl.Thing{Id: x.Id, Kind: x.Kind, Hidden: hidden, Fixed: fixed, Signs: x.Signs, Wraps: x.Wraps, Value: x.Value, Next: x.Next}, true
}

func modelDefaults(kind int, data string) (impl.Thing, bool) {
	switch {
	case kind == 1:
		return impl.Thing{Id: 0, Kind: 1, Hidden: true, Wraps: true, Value: digestByLibrary(data)}, true
	case kind == 2:
		return impl.Thing{Id: 0, Kind: 2, Hidden: true, Signs: true, Value: digestByLibrary(data)}, true
	case kind == 3 && len(data) <= mostData:
		return impl.Thing{Id: 0, Kind: 3, Value: data}, true
	}
	return impl.Thing{}, false
}

func modelRestored(x impl.Thing) impl.Thing {
	return impl.Thing{Id: 0, Kind: x.Kind, Hidden: x.Hidden, Fixed: x.Fixed, Signs: false, Wraps: x.Wraps, Value: x.Value, Next: 0}
}

func expectMay(t *testing.T, x impl.Thing, do int) bool {
	t.Helper()
	given := ownThing(x)
	got, again := impl.May(given, do), impl.May(given, do)
	if want := modelMay(x, do); got != want || again != want || given != x {
		t.Errorf("May of %s do %d = %v, and %v the next time, want %v", tellThing(x), do, got, again, want)
	}
	return got
}

// expectChange holds as well what every answer of Change must meet: nothing beside false, and nothing but Hidden and Fixed changed beside true.
func expectChange(t *testing.T, x impl.Thing, hidden, fixed bool) (impl.Thing, bool) {
	t.Helper()
	given := ownThing(x)
	got, ok := impl.Change(given, hidden, fixed)
	again, right := impl.Change(given, hidden, fixed)
	if want, there := modelChange(x, hidden, fixed); got != want || again != want || ok != there || right != there || given != x {
		t.Errorf("Change of %s to %v, %v = %s, %v, and %s, %v the next time, want %s, %v", tellThing(x), hidden, fixed, tellThing(got), ok, tellThing(again), right, tellThing(want), there)
	}
	expectOwnTexts(t, "Change", []string{got.Value, again.Value}, given.Value)
	if !ok && got != (impl.Thing{}) {
		t.Errorf("Change of %s to %v, %v is refused, with %s beside it", tellThing(x), hidden, fixed, tellThing(got))
	}
	if as := withHiddenFixed(got, x.Hidden, x.Fixed); ok && as != x {
		t.Errorf("Change of %s to %v, %v = %s changes more than these", tellThing(x), hidden, fixed, tellThing(got))
	}
	if ok && (got.Hidden != hidden || got.Fixed != fixed || !impl.ThingOk(got)) {
		t.Errorf("Change of %s to %v, %v = %s, which is not so or not right", tellThing(x), hidden, fixed, tellThing(got))
	}
	return got, ok
}

func expectDefaults(t *testing.T, kind int, data string) (impl.Thing, bool) {
	t.Helper()
	given := strings.Clone(data)
	got, ok := impl.Defaults(kind, given)
	again, right := impl.Defaults(kind, given)
	if want, there := modelDefaults(kind, data); got != want || again != want || ok != there || right != there || given != data {
		t.Errorf("Defaults of kind %d and %s = %s, %v, and %s, %v the next time, want %s, %v", kind, tellSeed(data), tellThing(got), ok, tellThing(again), right, tellThing(want), there)
	}
	expectOwnTexts(t, "Defaults", []string{got.Value, again.Value}, given)
	if got.Id != 0 || got.Next != 0 {
		t.Errorf("Defaults of kind %d and %s has Id %d and Next %d", kind, tellSeed(data), got.Id, got.Next)
	}
	for _, id := range []int{1, 2, mostId} {
		if impl.ThingOk(withId(got, id)) != ok {
			t.Errorf("Defaults of kind %d and %s = %s, %v: with the Id %d it is right, or not, otherwise", kind, tellSeed(data), tellThing(got), ok, id)
		}
	}
	return got, ok
}

func expectRestored(t *testing.T, x impl.Thing) impl.Thing {
	t.Helper()
	given := ownThing(x)
	got, again := impl.Restored(given), impl.Restored(given)
	if want := modelRestored(x); got != want || again != want || given != x {
		t.Errorf("Restored of %s = %s, and %s the next time, want %s", tellThing(x), tellThing(got), tellThing(again), tellThing(want))
	}
	expectOwnTexts(t, "Restored", []string{got.Value, again.Value}, given.Value)
	if got.Signs || got.Next != 0 || got.Id != 0 {
		t.Errorf("Restored of %s = %s may sign, or has an Id or a Next", tellThing(x), tellThing(got))
	}
	if as := withId(withNext(withSigns(got, x.Signs), x.Next), x.Id); as != x {
		t.Errorf("Restored of %s = %s is not as it was in all else", tellThing(x), tellThing(got))
	}
	return got
}

// expectNoMore asks that what came of a thing may do nothing that the thing might not do.
func expectNoMore(t *testing.T, what string, of, came impl.Thing) {
	t.Helper()
	for do := impl.DoShow; do <= impl.DoChange; do++ {
		if impl.May(came, do) && !impl.May(of, do) {
			t.Errorf("%s: %s comes of %s, and may do %d now", what, tellThing(came), tellThing(of), do)
		}
	}
}

// expectStays asks of what came of a hidden or fixed thing that it is so still, and is neither shown nor taken out.
func expectStays(t *testing.T, what string, of, came impl.Thing) {
	t.Helper()
	if of.Hidden && (!came.Hidden || impl.May(came, impl.DoShow)) {
		t.Errorf("%s: %s comes of %s, and is shown", what, tellThing(came), tellThing(of))
	}
	if of.Fixed && (!came.Fixed || impl.May(came, impl.DoTakeOut)) {
		t.Errorf("%s: %s comes of %s, and is taken out", what, tellThing(came), tellThing(of))
	}
}

// expectPromise20 asks of a thing, in each way that it may be changed twice and come in again, that it stays hidden and fixed, and never signs then.
func expectPromise20(t *testing.T, x impl.Thing) {
	t.Helper()
	for _, first := range changePairs {
		once, ok := expectChange(t, x, first[0], first[1])
		if !ok {
			continue
		}
		expectStays(t, "changed", x, once)
		expectNoMore(t, "changed", x, once)
		for _, next := range changePairs {
			if twice, right := expectChange(t, once, next[0], next[1]); right {
				expectStays(t, "changed twice", x, twice)
				expectNoMore(t, "changed twice", x, twice)
				expectNeverSigns(t, twice)
			}
		}
		expectNeverSigns(t, once)
	}
	expectNeverSigns(t, x)
}

// expectNeverSigns asks of what comes in again, with whatever Id and however it is changed, that it doesn't sign.
func expectNeverSigns(t *testing.T, x impl.Thing) {
	t.Helper()
	restored := expectRestored(t, x)
	if again := expectRestored(t, restored); again != restored {
		t.Errorf("Restored of %s is another one the next time: %s", tellThing(restored), tellThing(again))
	}
	for _, id := range []int{0, 1, x.Id, mostId} {
		in := withId(restored, id)
		if expectMay(t, in, impl.DoSign) {
			t.Errorf("%s comes in again as %s, and signs", tellThing(x), tellThing(in))
		}
		expectStays(t, "restored", x, in)
		for _, to := range changePairs {
			if changed, ok := impl.Change(in, to[0], to[1]); ok && impl.May(changed, impl.DoSign) {
				t.Errorf("%s comes in again as %s, and signs as %s", tellThing(x), tellThing(in), tellThing(changed))
			}
		}
	}
	if impl.ThingOk(x) {
		expectNoMore(t, "restored", x, withId(restored, x.Id))
	}
}

func withHiddenFixed(x impl.Thing, hidden, fixed bool) impl.Thing {
	x.Hidden, x.Fixed = hidden, fixed
	return x
}

func withSigns(x impl.Thing, signs bool) impl.Thing {
	x.Signs = signs
	return x
}

func dosAround() []int {
	return []int{math.MinInt, -1 << 32, -5, -3, -1, 0, 1, 2, 3, 4, 5, 6, 7, 8, 255, 256, 257, 259, 261, 1<<32 + 1, 1<<32 + 3, math.MaxInt}
}

func dataSizes() []int {
	return []int{0, 1, 2, 31, 32, 33, 55, 56, 63, 64, 65, 99, 100, 101, 102, 127, 128, 356}
}

// ruleThings are things of each Kind with each set of flags, right and not right in each of their fields.
func ruleThings() []impl.Thing {
	list := []impl.Thing{{}}
	for _, kind := range []int{-1, 0, 1, 2, 3, 4} {
		for flags := range flagsByKind {
			for _, id := range []int{-1, 0, 1, 1000, 1001} {
				for _, size := range []int{0, 31, 32, 33, 100, 101} {
					for _, next := range []int{-1, 0, 1, 16, 17} {
						list = append(list, withFlags(impl.Thing{Id: id, Kind: kind, Value: textOf(size), Next: next}, flags))
					}
				}
			}
		}
	}
	return list
}

// oddThings are right ones of which one field is far from right.
func oddThings() []impl.Thing {
	var list []impl.Thing
	for _, x := range rightThings() {
		for _, id := range append(idsAround(), math.MinInt, math.MaxInt) {
			list = append(list, withId(x, id))
		}
		for _, kind := range kindsAround() {
			list = append(list, withKind(x, kind))
		}
		for _, next := range nextsAround() {
			list = append(list, withNext(x, next))
		}
	}
	for _, x := range plainThings() {
		for _, great := range greatTexts() {
			list = append(list, withValue(x, great))
		}
	}
	return list
}

func TestNumbersOfRules(t *testing.T) {
	if impl.DoShow != 1 || impl.DoTakeOut != 2 || impl.DoSign != 3 || impl.DoWrap != 4 || impl.DoChange != 5 {
		t.Error("a constant of rules is another one")
	}
}

// What may be done with a thing of each Kind and set of flags, by the five numbers, was written down by hand from the chapter.
func TestKnownRules(t *testing.T) {
	const none = "no thing"
	for _, c := range []struct {
		kind int
		may  [flagsByKind]string
	}{
		{impl.KindKem, [flagsByKind]string{"125", "25", "15", "5", none, none, none, none, "1245", "245", "145", "45", none, none, none, none}},
		{impl.KindTree, [flagsByKind]string{"15", "5", "15", "5", "135", "35", "135", "35", none, none, none, none, none, none, none, none}},
		{impl.KindData, [flagsByKind]string{"125", "25", "15", "5", none, none, none, none, none, none, none, none, none, none, none, none}},
	} {
		for flags, may := range c.may {
			x := withFlags(impl.Thing{Id: 1, Kind: c.kind, Value: textOf(32)}, flags)
			if impl.ThingOk(x) != (may != none) {
				t.Errorf("%s is right, or not, otherwise", tellThing(x))
			}
			for _, do := range dosAround() {
				if want := may != none && do > 0 && strings.Contains(may, fmt.Sprint(do)); expectMay(t, x, do) != want {
					t.Errorf("May of %s do %d is not %v", tellThing(x), do, want)
				}
			}
		}
	}
}

func TestKnownChanges(t *testing.T) {
	for _, x := range plainThings() {
		for _, c := range []struct{ from, to, want [2]bool }{
			{[2]bool{false, false}, [2]bool{false, false}, [2]bool{false, false}},
			{[2]bool{false, false}, [2]bool{true, false}, [2]bool{true, false}},
			{[2]bool{false, false}, [2]bool{false, true}, [2]bool{false, true}},
			{[2]bool{false, false}, [2]bool{true, true}, [2]bool{true, true}},
			{[2]bool{true, false}, [2]bool{true, false}, [2]bool{true, false}},
			{[2]bool{true, false}, [2]bool{true, true}, [2]bool{true, true}},
			{[2]bool{false, true}, [2]bool{false, true}, [2]bool{false, true}},
			{[2]bool{false, true}, [2]bool{true, true}, [2]bool{true, true}},
			{[2]bool{true, true}, [2]bool{true, true}, [2]bool{true, true}},
		} {
			given, want := withHiddenFixed(x, c.from[0], c.from[1]), withHiddenFixed(x, c.want[0], c.want[1])
			if got, ok := expectChange(t, given, c.to[0], c.to[1]); !ok || got != want {
				t.Errorf("Change of %s to %v = %s, %v, want %s", tellThing(given), c.to, tellThing(got), ok, tellThing(want))
			}
		}
	}
}

// One that is taken back is refused although the other alone would do.
func TestKnownChangesThatAreRefused(t *testing.T) {
	for _, x := range plainThings() {
		for _, c := range []struct{ from, to [2]bool }{
			{[2]bool{true, false}, [2]bool{false, false}},
			{[2]bool{true, false}, [2]bool{false, true}},
			{[2]bool{false, true}, [2]bool{false, false}},
			{[2]bool{false, true}, [2]bool{true, false}},
			{[2]bool{true, true}, [2]bool{false, false}},
			{[2]bool{true, true}, [2]bool{false, true}},
			{[2]bool{true, true}, [2]bool{true, false}},
		} {
			given := withHiddenFixed(x, c.from[0], c.from[1])
			if got, ok := expectChange(t, given, c.to[0], c.to[1]); ok || got != (impl.Thing{}) {
				t.Errorf("Change of %s to %v = %s, %v", tellThing(given), c.to, tellThing(got), ok)
			}
		}
	}
}

func TestKnownDefaults(t *testing.T) {
	empty, _ := impl.Unhex("e3b0c44298fc1c149afbf4c8996fb92427ae41e4649b934ca495991b7852b855")
	abc, _ := impl.Unhex("ba7816bf8f01cfea414140de5dae2223b00361a396177a9cb410ff61f20015ad")
	for _, c := range []struct {
		kind int
		data string
		want impl.Thing
	}{
		{impl.KindKem, "", impl.Thing{Kind: impl.KindKem, Hidden: true, Wraps: true, Value: empty}},
		{impl.KindKem, "abc", impl.Thing{Kind: impl.KindKem, Hidden: true, Wraps: true, Value: abc}},
		{impl.KindTree, "", impl.Thing{Kind: impl.KindTree, Hidden: true, Signs: true, Value: empty}},
		{impl.KindTree, "abc", impl.Thing{Kind: impl.KindTree, Hidden: true, Signs: true, Value: abc}},
		{impl.KindData, "", impl.Thing{Kind: impl.KindData}},
		{impl.KindData, "abc", impl.Thing{Kind: impl.KindData, Value: "abc"}},
	} {
		if got, ok := expectDefaults(t, c.kind, c.data); !ok || got != c.want {
			t.Errorf("Defaults of kind %d and %q = %s, %v, want %s", c.kind, c.data, tellThing(got), ok, tellThing(c.want))
		}
	}
}

func TestKnownRestored(t *testing.T) {
	key := textOf(32)
	for _, c := range []struct{ given, want impl.Thing }{
		{impl.Thing{}, impl.Thing{}},
		{impl.Thing{Id: 7, Kind: impl.KindTree, Hidden: true, Signs: true, Value: key, Next: 5}, impl.Thing{Kind: impl.KindTree, Hidden: true, Value: key}},
		{impl.Thing{Id: 7, Kind: impl.KindTree, Fixed: true, Signs: true, Value: key, Next: 16}, impl.Thing{Kind: impl.KindTree, Fixed: true, Value: key}},
		{impl.Thing{Id: 1000, Kind: impl.KindKem, Hidden: true, Wraps: true, Value: key}, impl.Thing{Kind: impl.KindKem, Hidden: true, Wraps: true, Value: key}},
		{impl.Thing{Id: 1, Kind: impl.KindData, Value: "v"}, impl.Thing{Kind: impl.KindData, Value: "v"}},
		{impl.Thing{Id: -1, Kind: 9, Hidden: true, Fixed: true, Signs: true, Wraps: true, Value: "v", Next: -3}, impl.Thing{Kind: 9, Hidden: true, Fixed: true, Wraps: true, Value: "v"}},
	} {
		if got := expectRestored(t, c.given); got != c.want {
			t.Errorf("Restored of %s = %s, want %s", tellThing(c.given), tellThing(got), tellThing(c.want))
		}
	}
}

func TestMayOfThingsOfEachSort(t *testing.T) {
	may := map[int]int{}
	for _, x := range append(ruleThings(), oddThings()...) {
		right := impl.ThingOk(x)
		for _, do := range dosAround() {
			if !expectMay(t, x, do) {
				continue
			}
			may[do]++
			if !right || do < impl.DoShow || do > impl.DoChange {
				t.Errorf("May of %s do %d, though one of them is not right", tellThing(x), do)
			}
		}
	}
	for do := impl.DoShow; do <= impl.DoChange; do++ {
		if may[do] < 8 {
			t.Errorf("of the things %d may do %d", may[do], do)
		}
	}
}

// Promise 20, and all that is refused, with each of the four pairs.
func TestChangeOfThingsOfEachSort(t *testing.T) {
	changed, refused := 0, 0
	for _, x := range append(ruleThings(), oddThings()...) {
		expectPromise20(t, x)
		for _, to := range changePairs {
			if _, ok := impl.Change(x, to[0], to[1]); ok {
				changed++
			} else {
				refused++
			}
		}
		if !impl.ThingOk(x) {
			expectNoRules(t, x)
		}
	}
	if changed < 300 || refused < 300 {
		t.Errorf("of the changes %d are made, and %d refused", changed, refused)
	}
}

// expectNoRules asks of a thing that is not right that nothing may be done with it.
func expectNoRules(t *testing.T, x impl.Thing) {
	t.Helper()
	for do := impl.DoShow; do <= impl.DoChange; do++ {
		if impl.May(x, do) {
			t.Errorf("%s is not right, and may do %d", tellThing(x), do)
		}
	}
	for _, to := range changePairs {
		if got, ok := impl.Change(x, to[0], to[1]); ok || got != (impl.Thing{}) {
			t.Errorf("%s is not right, and is changed to %s, %v", tellThing(x), tellThing(got), ok)
		}
	}
}

// All orders of four changes, of which those that are refused leave the thing as it is.
func TestWhatIsHiddenOrFixedStaysSo(t *testing.T) {
	for _, x := range rightThings() {
		for order := range 4 * 4 * 4 * 4 {
			now := x
			for step := 1; step <= 64; step *= 4 {
				to := changePairs[order/step%4]
				ahead := now
				if came, ok := impl.Change(now, to[0], to[1]); ok {
					now = came
				} else if keeps := (to[0] || !now.Hidden) && (to[1] || !now.Fixed); keeps {
					t.Errorf("Change of %s to %v takes nothing back, and is refused", tellThing(now), to)
				}
				expectStays(t, "in order", x, now)
				expectStays(t, "in order", ahead, now)
				expectNoMore(t, "in order", ahead, now)
			}
			if withHiddenFixed(now, x.Hidden, x.Fixed) != x {
				t.Errorf("%s comes of %s", tellThing(now), tellThing(x))
			}
		}
	}
}

func TestWhatComesInAgainNeverSigns(t *testing.T) {
	for _, value := range kemTexts() {
		for next := range 17 {
			for flags := range 4 {
				x := withFlags(impl.Thing{Id: 1 + next, Kind: impl.KindTree, Value: value, Next: next}, flags+4)
				if !expectMay(t, x, impl.DoSign) {
					t.Errorf("%s may not sign", tellThing(x))
				}
				expectNeverSigns(t, x)
				if in := withId(impl.Restored(x), x.Id); !impl.ThingOk(in) || impl.PublicPart(in) != impl.PublicPart(x) {
					t.Errorf("%s comes in again as %s", tellThing(x), tellThing(in))
				}
			}
		}
	}
}

func TestRestoredOfThingsOfEachSort(t *testing.T) {
	for _, x := range append(ruleThings(), oddThings()...) {
		restored := expectRestored(t, x)
		if impl.ThingOk(restored) || impl.ThingOk(x) && !impl.ThingOk(withId(restored, x.Id)) {
			t.Errorf("Restored of %s = %s is right, or would not be with its Id", tellThing(x), tellThing(restored))
		}
	}
}

func TestDefaultsOfEachSort(t *testing.T) {
	for _, kind := range kindsAround() {
		for _, size := range dataSizes() {
			for _, data := range []string{textOf(size), strings.Repeat("\x00", size), strings.Repeat("\xff", size)} {
				key, plain := kind == impl.KindKem || kind == impl.KindTree, kind == impl.KindData && size <= mostData
				if _, ok := expectDefaults(t, kind, data); ok != (key || plain) {
					t.Errorf("Defaults of kind %d and %s is %v", kind, tellSeed(data), ok)
				}
			}
		}
		for _, great := range greatTexts() {
			if _, ok := expectDefaults(t, kind, great); ok != (kind == impl.KindKem || kind == impl.KindTree) {
				t.Errorf("Defaults of kind %d and %s is %v", kind, tellSeed(great), ok)
			}
		}
	}
	for size := range 300 {
		for kind := -1; kind <= 4; kind++ {
			expectDefaults(t, kind, textOf(size))
		}
	}
}

// What is made of a kind may do what is said of it, and no more.
func TestRulesOfDefaults(t *testing.T) {
	for kind, want := range map[int]string{impl.KindKem: "245", impl.KindTree: "35", impl.KindData: "125"} {
		for _, size := range []int{0, 1, 31, 32, 33, 100} {
			x, ok := impl.Defaults(kind, textOf(size))
			may, without := "", ""
			for do := range 7 {
				if impl.May(withId(x, 1), do) {
					may += fmt.Sprint(do)
				}
				if impl.May(x, do) {
					without += fmt.Sprint(do)
				}
			}
			if !ok || may != want || without != "" {
				t.Errorf("%s, %v may do %q with an Id, and %q without one", tellThing(x), ok, may, without)
			}
			expectPromise20(t, withId(x, 1))
		}
	}
}

func TestDrawnRules(t *testing.T) {
	draw := rand.New(rand.NewPCG(20, 1))
	right, wrong := 0, 0
	for range 3000 {
		x := drawAnyThing(draw)
		if impl.ThingOk(x) {
			right++
		} else {
			wrong++
			expectNoRules(t, x)
		}
		for _, do := range append(dosAround(), draw.Int(), -draw.Int()) {
			expectMay(t, x, do)
		}
		expectPromise20(t, x)
		expectDefaults(t, draw.IntN(6)-1, drawBytes(draw, draw.IntN(130)))
	}
	if right < 500 || wrong < 500 {
		t.Errorf("of the drawn things %d are right, and %d wrong", right, wrong)
	}
}

// The Value may be a piece of a text that lies behind others.
func TestRulesOfPieces(t *testing.T) {
	whole := strings.Clone(textOf(200))
	was := strings.Clone(whole)
	for _, kind := range []int{impl.KindKem, impl.KindTree, impl.KindData} {
		x := impl.Thing{Id: 7, Kind: kind, Value: whole[3:35]}
		changed, ok := impl.Change(x, true, true)
		made, right := impl.Defaults(kind, whole[50:100])
		restored := impl.Restored(x)
		if !ok || !right || changed.Value != was[3:35] || restored.Value != was[3:35] || kind == impl.KindData && made.Value != was[50:100] {
			t.Errorf("of a piece of a text come %s, %s and %s", tellThing(changed), tellThing(made), tellThing(restored))
		}
		expectOwnTexts(t, "pieces", []string{changed.Value, made.Value, restored.Value}, whole)
	}
	if whole != was {
		t.Error("an argument is written into")
	}
}

func TestRulesAmongMany(t *testing.T) {
	var callers sync.WaitGroup
	for caller := range 8 {
		callers.Go(func() {
			draw := rand.New(rand.NewPCG(20, uint64(100+caller)))
			for range 500 {
				x, to := drawThing(draw), changePairs[draw.IntN(4)]
				for do := range 7 {
					if impl.May(x, do) != modelMay(x, do) {
						t.Error("a rule among many is another one")
					}
				}
				changed, ok := impl.Change(x, to[0], to[1])
				if want, there := modelChange(x, to[0], to[1]); changed != want || ok != there {
					t.Error("a change among many is another one")
				}
				made, right := impl.Defaults(x.Kind, x.Value)
				if want, there := modelDefaults(x.Kind, x.Value); made != want || right != there || impl.Restored(x) != modelRestored(x) {
					t.Error("a thing among many is another one")
				}
			}
		})
	}
	callers.Wait()
}
