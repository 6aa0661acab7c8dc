package tests

import (
	"fmt"
	"math"
	"math/rand/v2"
	"slices"
	"strings"
	"sync"
	"testing"

	"loop.example/g00186/impl"
)

const (
	treeHeight = 2
	treeLeaves = 4
)

func modelNode(level, place int, a, b string) string {
	return modelChop(modelByte(level) + modelByte(place) + a + b + "n")
}

func modelLevelUp(level int, list []string) []string {
	var above []string
	for two := range slices.Chunk(list, 2) {
		if len(two) == 2 {
			above = append(above, modelNode(level, len(above), two[0], two[1]))
		}
	}
	return above
}

func modelRootOf(list []string) string {
	if len(list) != 4 {
		return ""
	}
	for level := 1; len(list) > 1; level++ {
		list = modelLevelUp(level, list)
	}
	return list[0]
}

func modelPathOf(list []string, leaf int) []string {
	if len(list) != 4 {
		return nil
	}
	firsts := modelLevelUp(1, list)
	switch leaf {
	case 0:
		return []string{list[1], firsts[1]}
	case 1:
		return []string{list[0], firsts[1]}
	case 2:
		return []string{list[3], firsts[0]}
	case 3:
		return []string{list[2], firsts[0]}
	}
	return nil
}

// modelRootBy has who stands left and who right written out for each leaf.
func modelRootBy(x string, leaf int, path []string) string {
	if len(path) != 2 {
		return ""
	}
	switch leaf {
	case 0:
		return modelNode(2, 0, modelNode(1, 0, x, path[0]), path[1])
	case 1:
		return modelNode(2, 0, modelNode(1, 0, path[0], x), path[1])
	case 2:
		return modelNode(2, 0, path[1], modelNode(1, 1, x, path[0]))
	case 3:
		return modelNode(2, 0, path[1], modelNode(1, 1, path[0], x))
	}
	return ""
}

func expectNode(t *testing.T, level, place int, a, b string) string {
	t.Helper()
	what := fmt.Sprintf("Node with level %d and place %d", level, place)
	ask := func(list []string, text string) []string { return []string{impl.Node(level, place, list[0], text)} }
	got := expectChain(t, what, ask, []string{modelNode(level, place, a, b)}, []string{a}, b)[0]
	if len(got) != shortSize {
		t.Errorf("%s of %s and %s = %x", what, tellSeed(a), tellSeed(b), got)
	}
	return got
}

func expectLevelUp(t *testing.T, level int, list []string) []string {
	t.Helper()
	ask := func(list []string, _ string) []string { return impl.LevelUp(level, list) }
	got := expectChain(t, fmt.Sprintf("LevelUp with level %d", level), ask, modelLevelUp(level, list), list, "")
	if len(got) != len(list)/2 {
		t.Errorf("LevelUp with level %d of %s = %s", level, tellRecords(list), tellRecords(got))
	}
	return got
}

func expectRootOf(t *testing.T, list []string) string {
	t.Helper()
	ask := func(list []string, _ string) []string { return []string{impl.RootOf(list)} }
	return expectChain(t, "RootOf", ask, []string{modelRootOf(list)}, list, "")[0]
}

func expectPathOf(t *testing.T, list []string, leaf int) []string {
	t.Helper()
	ask := func(list []string, _ string) []string { return impl.PathOf(list, leaf) }
	return expectChain(t, fmt.Sprintf("PathOf with leaf %d", leaf), ask, modelPathOf(list, leaf), list, "")
}

func expectRootBy(t *testing.T, x string, leaf int, path []string) string {
	t.Helper()
	ask := func(list []string, text string) []string { return []string{impl.RootBy(text, leaf, list)} }
	return expectChain(t, fmt.Sprintf("RootBy with leaf %d", leaf), ask, []string{modelRootBy(x, leaf, path)}, path, x)[0]
}

func expectNotTheRoot(t *testing.T, what string, root string, x string, leaf int, path []string) {
	t.Helper()
	if got := expectRootBy(t, x, leaf, path); got == root || len(got) != shortSize {
		t.Errorf("leaf %d, %s: %s and the path %s make %x, where the root is %x", leaf, what, tellSeed(x), tellRecords(path), got, root)
	}
}

// expectPromise15 holds the promise of each leaf, with each of the functions held against its model.
func expectPromise15(t *testing.T, list []string) {
	t.Helper()
	root := expectRootOf(t, list)
	for leaf, x := range list {
		path := expectPathOf(t, list, leaf)
		if by := expectRootBy(t, x, leaf, path); by != root || len(root) != shortSize || len(path) != treeHeight {
			t.Errorf("leaf %d of %s and its path %s make %x, not %x", leaf, tellRecords(list), tellRecords(path), by, root)
		}
	}
}

// unlikeLists have texts of one length, no two alike: of texts of other lengths two lists may be one row of bytes, and have one root.
func unlikeLists() [][]string {
	lists := [][]string{{"a", "b", "c", "d"}, {"aaaa", "aaab", "aaba", "abaa"}, {"\x00\x00\x00\x00", "\xff\xff\xff\xff", "\x00\x00\x00\x01", "\xff\xff\xff\xfe"}}
	for _, size := range []int{3, shortSize, 32, 61, 64, 300} {
		var list []string
		for leaf := range treeLeaves {
			list = append(list, textOf(size * (leaf + 1))[size*leaf:])
		}
		lists = append(lists, list)
	}
	for _, seed := range []string{"", "s", "a seed", textOf(32)} {
		var list []string
		for leaf := range treeLeaves {
			list = append(list, modelOncePublic(modelOnceKey(seed, leaf), leaf))
		}
		lists = append(lists, list)
	}
	return lists
}

// anyLists have Leaves texts, also empty ones, ones that are alike and ones of unlike lengths.
func anyLists() [][]string {
	lists := slices.Concat(unlikeLists(), [][]string{make([]string, treeLeaves), {"same", "same", "same", "same"}, {"n", "n", "n", "n"}, {"a", "a", "b", "b"}, {"a", "b", "a", "b"}, {"a", "b", "b", "a"}})
	for empty := range treeLeaves {
		one, others := []string{"abcd", "efgh", "ijkl", "mnop"}, make([]string, treeLeaves)
		one[empty], others[empty] = "", "alone"
		lists = append(lists, one, others)
	}
	texts := chainTexts()
	for i := range texts {
		var list []string
		for leaf := range treeLeaves {
			list = append(list, texts[(i+7*leaf)%len(texts)])
		}
		lists = append(lists, list)
	}
	return append(lists, greatTexts())
}

func listsOfOtherSizes() [][]string {
	lists := [][]string{nil, {}, {""}, make([]string, treeLeaves-1), make([]string, treeLeaves+1)}
	for size := range 20 {
		if size != treeLeaves {
			lists = append(lists, manyTexts(size))
		}
	}
	return append(lists, manyTexts(64), manyTexts(256), manyTexts(300))
}

func manyTexts(n int) []string {
	var list []string
	for i := range n {
		list = append(list, fmt.Sprintf("%04x", i))
	}
	return list
}

func noLeaves() []int {
	return []int{-1, -2, -3, -4, -5, -256, -1 << 32, math.MinInt, math.MinInt + 1, 4, 5, 6, 7, 8, 15, 16, 255, 256, 257, 258, 259, 1 << 32, 1<<32 + 1, math.MaxInt - 3, math.MaxInt}
}

func treeLevels() []int {
	return []int{-257, -256, -255, -1, 0, 1, 2, 3, 127, 128, 254, 255, 256, 257, 258, 1000, 1 << 32, 1<<32 + 1, math.MinInt, math.MaxInt}
}

func TestTheTree(t *testing.T) {
	if impl.Height != treeHeight || impl.Leaves != treeLeaves {
		t.Errorf("Height = %d, Leaves = %d", impl.Height, impl.Leaves)
	}
}

// What these tests know comes from another program, which was written down from the chapter by itself.
func TestKnownNodes(t *testing.T) {
	for _, c := range []struct {
		level, place int
		a, b         string
		want         string
	}{
		{0, 0, "", "", "05ff6a38"},
		{1, 0, "a", "b", "9a20b0a6"},
		{1, 1, "c", "d", "2e5c423b"},
		{1, 0, "b", "a", "fc28c215"},
		{2, 0, "\x00\x01\x02\x03", "\xff\xfe\xfd\xfc", "dc8ef93a"},
		{255, 255, "", "x", "cc07c6b4"},
		{256, 257, "x", "", "5d2d3372"},
		{-1, -2, "ab", "c", "c300ab56"},
		{-256, -257, "a", "bc", "48a5ead1"},
		{1000, 3, strings.Repeat("n", 70), strings.Repeat("n", 50), "688b0232"},
	} {
		if got := impl.Node(c.level, c.place, c.a, c.b); got != bytesOf(t, c.want) {
			t.Errorf("Node(%d, %d, %q, %q) = %x, want %s", c.level, c.place, c.a, c.b, got, c.want)
		}
	}
}

func TestKnownTrees(t *testing.T) {
	for _, c := range []struct {
		list   []string
		firsts [2]string
		root   string
		places [treeLeaves][treeLeaves]string // what each leaf with its path makes by each place
		over   [treeLeaves]string             // what it makes when the path's texts are changed over
	}{
		{[]string{"a", "b", "c", "d"}, [2]string{"9a20b0a6", "2e5c423b"}, "3622a2cb",
			[treeLeaves][treeLeaves]string{
				{"3622a2cb", "b5748259", "edbbe599", "8d45258e"}, {"b5748259", "3622a2cb", "8d45258e", "edbbe599"},
				{"55784fe1", "921bc2bc", "3622a2cb", "34230bec"}, {"921bc2bc", "55784fe1", "34230bec", "3622a2cb"},
			}, [treeLeaves]string{"5db65a54", "908948c6", "1c10b589", "76eb449a"}},
		{[]string{"", "", "", ""}, [2]string{"da9a7838", "3aec1be0"}, "189e7784",
			[treeLeaves][treeLeaves]string{
				{"189e7784", "189e7784", "3517586d", "3517586d"}, {"189e7784", "189e7784", "3517586d", "3517586d"},
				{"f20d7a1b", "f20d7a1b", "189e7784", "189e7784"}, {"f20d7a1b", "f20d7a1b", "189e7784", "189e7784"},
			}, [treeLeaves]string{"f5353db3", "f5353db3", "0b716c10", "0b716c10"}},
		{[]string{"\x00\x01\x02\x03", "\x04\x05\x06\x07", "\x08\x09\x0a\x0b", "\x0c\x0d\x0e\x0f"}, [2]string{"0dcd2b43", "0ef0b199"}, "a8258db4",
			[treeLeaves][treeLeaves]string{
				{"a8258db4", "129aa7a3", "db972c7f", "9cf6a5f9"}, {"129aa7a3", "a8258db4", "9cf6a5f9", "db972c7f"},
				{"37227434", "c6f4b393", "a8258db4", "fb2f50c9"}, {"c6f4b393", "37227434", "fb2f50c9", "a8258db4"},
			}, [treeLeaves]string{"a671d2c5", "7edf9e6e", "b13c5484", "27175bb6"}},
		{[]string{"", "x", "yz", strings.Repeat("n", 100)}, [2]string{"3fc7f668", "567be65f"}, "76ec46a6",
			[treeLeaves][treeLeaves]string{
				{"76ec46a6", "76ec46a6", "08d9642e", "08d9642e"}, {"76ec46a6", "76ec46a6", "08d9642e", "08d9642e"},
				{"1fbaaa36", "0de5e030", "76ec46a6", "23b9fb97"}, {"0de5e030", "1fbaaa36", "23b9fb97", "76ec46a6"},
			}, [treeLeaves]string{"edaaae22", "2eb68fcc", "7b8831a5", "f1397a74"}},
	} {
		firsts := []string{bytesOf(t, c.firsts[0]), bytesOf(t, c.firsts[1])}
		if got := impl.LevelUp(1, c.list); !slices.Equal(got, firsts) || impl.RootOf(c.list) != bytesOf(t, c.root) {
			t.Errorf("%s: LevelUp = %s, RootOf = %x", tellRecords(c.list), tellRecords(got), impl.RootOf(c.list))
		}
		for leaf, x := range c.list {
			path := impl.PathOf(c.list, leaf)
			if want := []string{c.list[[]int{1, 0, 3, 2}[leaf]], firsts[[]int{1, 1, 0, 0}[leaf]]}; !slices.Equal(path, want) {
				t.Fatalf("%s: PathOf of leaf %d = %s, want %s", tellRecords(c.list), leaf, tellRecords(path), tellRecords(want))
			}
			for place, want := range c.places[leaf] {
				if got := impl.RootBy(x, place, path); got != bytesOf(t, want) {
					t.Errorf("%s: RootBy of leaf %d at the place %d = %x, want %s", tellRecords(c.list), leaf, place, got, want)
				}
			}
			if got := impl.RootBy(x, leaf, []string{path[1], path[0]}); got != bytesOf(t, c.over[leaf]) {
				t.Errorf("%s: RootBy of leaf %d with its path changed over = %x, want %s", tellRecords(c.list), leaf, got, c.over[leaf])
			}
		}
	}
}

func TestNodesOfTexts(t *testing.T) {
	for _, a := range chainTexts() {
		for _, b := range chainTexts() {
			expectNode(t, 1, 0, a, b)
			expectNode(t, 2, 1, b, a)
		}
	}
	for _, great := range greatTexts() {
		for _, other := range []string{"", "x", "abcd", great} {
			expectNode(t, 1, 0, great, other)
			expectNode(t, 1, 0, other, great)
		}
	}
}

func TestNodesOfLevelsAndPlaces(t *testing.T) {
	for _, level := range chainNumbers() {
		for _, place := range chainNumbers() {
			for _, two := range [][2]string{{"", ""}, {"", "x"}, {"abcd", ""}, {"abcd", "efgh"}, {textOf(40), textOf(33)}} {
				expectNode(t, level, place, two[0], two[1])
			}
		}
	}
	for n := -600; n <= 600; n++ {
		first := modelMod(n, 256)
		if impl.Node(n, 5, "a", "b") != impl.Node(first, 5, "a", "b") || impl.Node(5, n, "a", "b") != impl.Node(5, first, "a", "b") {
			t.Errorf("a node with %d is not that with %d", n, first)
		}
	}
}

func TestOtherLevelsAndPlacesHaveOtherNodes(t *testing.T) {
	met := map[string][2]int{}
	for n := range 256 {
		for _, at := range [][2]int{{n, 0}, {0, n}, {n, 7}, {7, n}} {
			text := impl.Node(at[0], at[1], "abcd", "efgh")
			if other, there := met[text]; there && other != at {
				t.Errorf("the level and place %v and %v have one node", at, other)
			}
			met[text] = at
		}
	}
}

func TestNodesCareWhoStandsLeft(t *testing.T) {
	for _, list := range unlikeLists() {
		for i, a := range list {
			for j, b := range list {
				for _, level := range []int{0, 1, 2, 255} {
					if same := impl.Node(level, 0, a, b) == impl.Node(level, 0, b, a); same != (i == j) {
						t.Errorf("with level %d, whether %s left of %s is as right of it: %v", level, tellSeed(a), tellSeed(b), same)
					}
				}
			}
		}
	}
	// Nothing stands between the two, as the chapter has it: the same row of bytes is the same node.
	for _, whole := range []string{"", "x", "abc", textOf(70)} {
		for cut := range len(whole) + 1 {
			if impl.Node(1, 2, whole[:cut], whole[cut:]) != impl.Node(1, 2, whole, "") {
				t.Errorf("%s cut at %d is another node", tellSeed(whole), cut)
			}
		}
	}
}

func TestLevelsOfLists(t *testing.T) {
	for _, level := range treeLevels() {
		for size := range 18 {
			expectLevelUp(t, level, manyTexts(size))
			expectLevelUp(t, level, make([]string, size))
		}
	}
	for _, list := range slices.Concat(anyLists(), listsOfOtherSizes()) {
		for _, level := range []int{-1, 0, 1, 2, 255, 256} {
			expectLevelUp(t, level, list)
		}
	}
	expectLevelUp(t, 1, chainTexts())
}

func TestLevelsOfFewTexts(t *testing.T) {
	list := []string{"one", "two", "three", "four", "five"}
	for _, level := range treeLevels() {
		first, other := impl.Node(level, 0, "one", "two"), impl.Node(level, 1, "three", "four")
		for size, want := range [][]string{{}, {}, {first}, {first}, {first, other}, {first, other}} {
			if got := expectLevelUp(t, level, list[:size]); !slices.Equal(got, want) {
				t.Errorf("LevelUp with level %d of %d texts = %s, want %s", level, size, tellRecords(got), tellRecords(want))
			}
		}
	}
}

// A last one alone is left out, and is not looked at.
func TestLevelsLeaveALastOneOut(t *testing.T) {
	for size := range 40 {
		list := manyTexts(2 * size)
		want := expectLevelUp(t, 1, list)
		for _, last := range []string{"", "x", "abcd", textOf(100)} {
			if got := expectLevelUp(t, 1, append(slices.Clone(list), last)); !slices.Equal(got, want) {
				t.Errorf("%s behind %d texts changes the level above", tellSeed(last), 2*size)
			}
		}
	}
}

func TestPlacesOfLevelsGoOn(t *testing.T) {
	const count = 600
	above := expectLevelUp(t, 3, slices.Repeat([]string{"abcd"}, 2*count))
	met := map[string]int{}
	for place, text := range above {
		if text != impl.Node(3, place, "abcd", "abcd") {
			t.Errorf("the place %d has %x", place, text)
		}
		if first, there := met[text]; there && first != place%256 {
			t.Errorf("the places %d and %d have one node", first, place)
		}
		met[text] = place % 256
	}
	if len(above) != count || len(met) != 256 || above[256] != above[0] || above[511] != above[255] {
		t.Errorf("of %d places come %d texts, %d of them unlike", count, len(above), len(met))
	}
}

func TestRootsOfLists(t *testing.T) {
	for _, list := range anyLists() {
		if root := expectRootOf(t, list); len(root) != shortSize || root != impl.LevelUp(2, impl.LevelUp(1, list))[0] {
			t.Errorf("RootOf of %s = %x", tellRecords(list), root)
		}
	}
	for _, list := range listsOfOtherSizes() {
		if root := expectRootOf(t, list); root != "" {
			t.Errorf("RootOf of %s = %x, want nothing", tellRecords(list), root)
		}
	}
}

// Two lists of unlike texts have one root just when they are one list.
func TestRootsCareForOrderAndTexts(t *testing.T) {
	for _, list := range unlikeLists() {
		root := impl.RootOf(list)
		met := map[string][]int{}
		for n := range 256 {
			order := []int{n / 64, n / 16 % 4, n / 4 % 4, n % 4}
			got := expectRootOf(t, []string{list[order[0]], list[order[1]], list[order[2]], list[order[3]]})
			if other, there := met[got]; there {
				t.Errorf("%s in the orders %v and %v have one root", tellRecords(list), order, other)
			}
			met[got] = order
		}
		if !slices.Equal(met[root], []int{0, 1, 2, 3}) {
			t.Errorf("%s has the root of the order %v", tellRecords(list), met[root])
		}
	}
}

func TestRootsWithOneByteTurned(t *testing.T) {
	list := []string{"abcd", "efgh", "ijkl", "mnop"}
	root := impl.RootOf(list)
	for leaf := range treeLeaves {
		for at := range shortSize {
			for bit := range 8 {
				turned := slices.Clone(list)
				turned[leaf] = turnedByte(turned[leaf], at, 1<<bit)
				if got := expectRootOf(t, turned); got == root {
					t.Errorf("with bit %d of byte %d of leaf %d turned the root is the same", bit, at, leaf)
				}
			}
		}
	}
}

func TestPathsOfLeaves(t *testing.T) {
	for _, list := range anyLists() {
		firsts := impl.LevelUp(1, list)
		for leaf, want := range [][]string{{list[1], firsts[1]}, {list[0], firsts[1]}, {list[3], firsts[0]}, {list[2], firsts[0]}} {
			if path := expectPathOf(t, list, leaf); !slices.Equal(path, want) {
				t.Errorf("the path of leaf %d of %s is %s, want %s", leaf, tellRecords(list), tellRecords(path), tellRecords(want))
			}
		}
	}
}

// A leaf's own text, and who is above it, are no part of its path.
func TestPathsHaveNothingOfTheirLeaf(t *testing.T) {
	for _, list := range unlikeLists() {
		for leaf := range treeLeaves {
			path := impl.PathOf(list, leaf)
			changed := slices.Clone(list)
			changed[leaf] = "another"
			if other := expectPathOf(t, changed, leaf); !slices.Equal(other, path) || impl.RootOf(changed) == impl.RootOf(list) {
				t.Errorf("the path of leaf %d of %s hangs on its text", leaf, tellRecords(list))
			}
		}
	}
}

func TestPathsThatAreNone(t *testing.T) {
	for _, list := range listsOfOtherSizes() {
		for leaf := -2; leaf < 8; leaf++ {
			if path := expectPathOf(t, list, leaf); len(path) != 0 {
				t.Errorf("PathOf of %s and leaf %d = %s, want nothing", tellRecords(list), leaf, tellRecords(path))
			}
		}
		// Lists that have a text at this place have no more of a path.
		if path := expectPathOf(t, list, len(list)-1); len(path) != 0 {
			t.Errorf("PathOf of %s and its last leaf = %s, want nothing", tellRecords(list), tellRecords(path))
		}
	}
	for _, list := range anyLists() {
		for _, leaf := range noLeaves() {
			if path := expectPathOf(t, list, leaf); len(path) != 0 {
				t.Errorf("PathOf of %s and leaf %d = %s, want nothing", tellRecords(list), leaf, tellRecords(path))
			}
		}
	}
}

func TestWhoStandsLeft(t *testing.T) {
	for _, x := range chainTexts() {
		for _, path := range [][]string{{"efgh", "ijkl"}, {"", "ijkl"}, {"efgh", ""}, {"", ""}, {x, x}, {textOf(40), textOf(90)}} {
			beside, above := path[0], path[1]
			for leaf, want := range []string{
				impl.Node(2, 0, impl.Node(1, 0, x, beside), above),
				impl.Node(2, 0, impl.Node(1, 0, beside, x), above),
				impl.Node(2, 0, above, impl.Node(1, 1, x, beside)),
				impl.Node(2, 0, above, impl.Node(1, 1, beside, x)),
			} {
				if got := expectRootBy(t, x, leaf, path); got != want {
					t.Errorf("RootBy of %s, leaf %d and %s = %x, want %x", tellSeed(x), leaf, tellRecords(path), got, want)
				}
			}
		}
	}
}

func TestRootsByNoPath(t *testing.T) {
	right := []string{"abcd", "efgh"}
	for _, x := range []string{"", "x", "ijkl", textOf(100)} {
		for leaf := -2; leaf < 8; leaf++ {
			for size := range 9 {
				for _, path := range [][]string{manyTexts(size), make([]string, size)} {
					got := expectRootBy(t, x, leaf, path)
					if there := size == treeHeight && leaf >= 0 && leaf < treeLeaves; (got != "") != there {
						t.Errorf("RootBy of %s, leaf %d and a path of %d texts = %x", tellSeed(x), leaf, size, got)
					}
				}
			}
			if got := expectRootBy(t, x, leaf, nil); got != "" {
				t.Errorf("RootBy of %s, leaf %d and nothing = %x", tellSeed(x), leaf, got)
			}
		}
		for _, leaf := range noLeaves() {
			if got := expectRootBy(t, x, leaf, right); got != "" {
				t.Errorf("RootBy of %s and leaf %d = %x, want nothing", tellSeed(x), leaf, got)
			}
		}
	}
	for _, list := range unlikeLists() {
		for leaf, x := range list {
			path := impl.PathOf(list, leaf)
			for _, other := range [][]string{nil, path[:1], path[1:], append(slices.Clone(path), ""), append(slices.Clone(path), path...), append([]string{x}, path...)} {
				if got := expectRootBy(t, x, leaf, other); got != "" {
					t.Errorf("RootBy of leaf %d and a path of %d texts = %x, want nothing", leaf, len(other), got)
				}
			}
		}
	}
}

// Promise 15.
func TestPathsMakeTheRoot(t *testing.T) {
	for _, list := range anyLists() {
		expectPromise15(t, list)
	}
	for n := range 500 {
		expectPromise15(t, manyTexts(4 * (n + 1))[4*n:])
	}
}

func TestPathsOfDrawnListsMakeTheRoot(t *testing.T) {
	draw := rand.New(rand.NewPCG(15, 1))
	for range 1500 {
		expectPromise15(t, []string{drawText(draw), drawText(draw), drawText(draw), drawText(draw)})
	}
}

func TestPathsOfKeysMakeTheRoot(t *testing.T) {
	for _, seed := range chainTexts() {
		var list []string
		for leaf := range treeLeaves {
			list = append(list, impl.OncePublic(impl.OnceKey(seed, leaf), leaf))
		}
		expectPromise15(t, list)
		for leaf := range treeLeaves {
			signed := impl.OnceSign(impl.OnceKey(seed, leaf), leaf, "m")
			if by := impl.RootBy(impl.OnceFound(signed, leaf, "m"), leaf, impl.PathOf(list, leaf)); by != impl.RootOf(list) {
				t.Errorf("a signature of leaf %d of %s makes %x, not the root %x", leaf, tellSeed(seed), by, impl.RootOf(list))
			}
		}
	}
}

func TestOtherPlacesMakeNoRoot(t *testing.T) {
	for _, list := range unlikeLists() {
		root := impl.RootOf(list)
		for leaf, x := range list {
			path := impl.PathOf(list, leaf)
			for other := range treeLeaves {
				if other != leaf {
					expectNotTheRoot(t, fmt.Sprint("by the path of leaf ", leaf), root, x, other, path)
					expectNotTheRoot(t, fmt.Sprint("with the text of leaf ", other), root, list[other], leaf, path)
					expectNotTheRoot(t, fmt.Sprint("by the path of leaf ", other), root, x, leaf, impl.PathOf(list, other))
				}
			}
		}
	}
}

func TestOtherTextsMakeNoRoot(t *testing.T) {
	for _, list := range unlikeLists() {
		root := impl.RootOf(list)
		for leaf, x := range list {
			path := impl.PathOf(list, leaf)
			for _, other := range []string{"", "another", x + "\x00", "\x00" + x, x[1:], x[:len(x)-1], x + x, path[0], path[1], root} {
				if other != x {
					expectNotTheRoot(t, "with another text", root, other, leaf, path)
				}
			}
			for at := range min(len(x), 8) {
				for bit := range 8 {
					expectNotTheRoot(t, "with a bit of its text turned", root, turnedByte(x, at, 1<<bit), leaf, path)
				}
			}
		}
	}
}

func TestOtherPathsMakeNoRoot(t *testing.T) {
	lists := unlikeLists()
	for i, list := range lists {
		root := impl.RootOf(list)
		for leaf, x := range list {
			path := impl.PathOf(list, leaf)
			expectNotTheRoot(t, "the path changed over", root, x, leaf, []string{path[1], path[0]})
			expectNotTheRoot(t, "the first text twice", root, x, leaf, []string{path[0], path[0]})
			expectNotTheRoot(t, "the other text twice", root, x, leaf, []string{path[1], path[1]})
			expectNotTheRoot(t, "the leaf and the first in each other's place", root, path[0], leaf, []string{x, path[1]})
			expectNotTheRoot(t, "the path of another list", root, x, leaf, impl.PathOf(lists[(i+1)%len(lists)], leaf))
			for place := range treeHeight {
				for _, text := range []string{"", "another", path[place] + "\x00", path[place][1:], root} {
					changed := slices.Clone(path)
					changed[place] = text
					expectNotTheRoot(t, fmt.Sprintf("text %d of the path changed", place), root, x, leaf, changed)
				}
				for bit := range 8 * min(len(path[place]), 8) {
					turned := slices.Clone(path)
					turned[place] = turnedByte(turned[place], bit/8, 1<<(bit%8))
					expectNotTheRoot(t, fmt.Sprintf("bit %d of text %d of the path turned", bit, place), root, x, leaf, turned)
				}
			}
		}
	}
}

// Texts may lie in one another's memory, and a list may be a piece of another one.
func TestTreesOfTextsThatLieTogether(t *testing.T) {
	whole := textOf(80)
	list := []string{whole[:30], whole[10:50], whole[40:], whole, whole[:30], whole[70:]}
	for from := range 3 {
		piece := list[from : from+treeLeaves]
		want := slices.Clone(list)
		for leaf, x := range piece {
			path := impl.PathOf(piece, leaf)
			if !slices.Equal(path, modelPathOf(piece, leaf)) || impl.RootBy(x, leaf, path) != modelRootOf(piece) || impl.RootOf(piece) != modelRootOf(piece) {
				t.Errorf("leaf %d of the piece from %d on has the path %s", leaf, from, tellRecords(path))
			}
			expectOwnTexts(t, "PathOf", path, whole)
			path = append(path, "more")
			clear(path)
		}
		if above := impl.LevelUp(1, piece); !slices.Equal(above, modelLevelUp(1, piece)) || !slices.Equal(list, want) {
			t.Errorf("the level above the piece from %d on is %s", from, tellRecords(above))
		}
	}
}

func TestTreesShareNoMemory(t *testing.T) {
	for _, ask := range []func(list []string) []string{
		func(list []string) []string { return impl.LevelUp(1, list) },
		func(list []string) []string { return impl.PathOf(list, 0) },
		func(list []string) []string { return impl.PathOf(list, 3) },
	} {
		list := []string{"abcd", "efgh", "ijkl", "mnop"}
		first, again := ask(list), ask(list)
		want, root := slices.Clone(again), impl.RootOf(list)
		// What is written into an answer, or into the list, is not seen in another answer.
		clear(first)
		third := ask(list)
		if !slices.Equal(third, want) || impl.RootOf(list) != root {
			t.Errorf("what is written into %s is seen in the next answer", tellRecords(want))
		}
		clear(list)
		if !slices.Equal(again, want) || !slices.Equal(third, want) {
			t.Errorf("%s changes with its list", tellRecords(want))
		}
	}
}

func TestTreesAmongMany(t *testing.T) {
	var callers sync.WaitGroup
	list := manyTexts(treeLeaves)
	for caller := range 8 {
		callers.Go(func() {
			for n := range 100 {
				leaf := (caller + n) % treeLeaves
				path := impl.PathOf(list, leaf)
				if !slices.Equal(path, modelPathOf(list, leaf)) || impl.RootBy(list[leaf], leaf, path) != modelRootOf(list) || impl.RootOf(list) != modelRootOf(list) {
					t.Error("a path among many is another one")
				}
				if own := manyTexts(caller + n); !slices.Equal(impl.LevelUp(n, own), modelLevelUp(n, own)) {
					t.Error("a level among many is another one")
				}
			}
		})
	}
	callers.Wait()
}
