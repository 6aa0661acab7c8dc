package tests

import (
	"fmt"
	"math"
	"math/rand/v2"
	"slices"
	"strings"
	"sync"
	"testing"

	"loop.example/g00186/impl"
)

const (
	indexCount = 16
	hyperSize  = 102
	lowStart   = 53
)

func modelHyperPublic(seed string) string {
	return modelPublicOf(seed + "t")
}

// modelHyperSign counts the indexes, so that it does without a quotient.
func modelHyperSign(seed string, index int, m string) (impl.Hyper, bool) {
	next := 0
	for top := range 4 {
		for leaf := range 4 {
			if next == index {
				low := seed + modelByte(top) + "l"
				var h impl.Hyper
				h.Root = modelPublicOf(low)
				h.Low, _ = modelSignAt(low, leaf, m)
				h.Top, _ = modelSignAt(seed+"t", top, h.Root)
				return h, true
			}
			next++
		}
	}
	return impl.Hyper{}, false
}

func modelHyperCheck(public, m string, h impl.Hyper) bool {
	return modelCheckSig(public, h.Root, h.Top) && modelCheckSig(h.Root, m, h.Low)
}

func modelHyperIndex(h impl.Hyper) int {
	if modelSigOk(h.Top) && modelSigOk(h.Low) {
		return 4*h.Top.Leaf + h.Low.Leaf
	}
	return -1
}

func modelHyperText(h impl.Hyper) (string, bool) {
	top, ok := modelSigText(h.Top)
	low, right := modelSigText(h.Low)
	if ok && right && len(h.Root) == 4 {
		return top + h.Root + low, true
	}
	return "", false
}

// modelReadHyper takes the one that could have this text, and asks for its text.
func modelReadHyper(text string) (impl.Hyper, bool) {
	var top, root, low string
	for i, b := range []byte(text) {
		switch one := string([]byte{b}); {
		case i < 49:
			top += one
		case i < 53:
			root += one
		default:
			low += one
		}
	}
	h := impl.Hyper{Root: root}
	h.Top, _ = modelReadSig(top)
	h.Low, _ = modelReadSig(low)
	if back, ok := modelHyperText(h); !ok || back != text {
		return impl.Hyper{}, false
	}
	return h, true
}

func sameHyper(a, b impl.Hyper) bool {
	return sameSig(a.Top, b.Top) && a.Root == b.Root && sameSig(a.Low, b.Low)
}

func isZeroHyper(h impl.Hyper) bool {
	return sameHyper(h, impl.Hyper{})
}

func tellHyper(h impl.Hyper) string {
	return fmt.Sprintf("on top %s, the root %x, and below %s", tellSig(h.Top), h.Root, tellSig(h.Low))
}

func cloneHyper(h impl.Hyper) impl.Hyper {
	return impl.Hyper{Top: cloneSig(h.Top), Root: strings.Clone(h.Root), Low: cloneSig(h.Low)}
}

func textsOfHyper(h impl.Hyper) []string {
	return slices.Concat(textsOfSig(h.Top), []string{h.Root}, textsOfSig(h.Low))
}

func listsOfHyper(h impl.Hyper) [][]string {
	return [][]string{h.Top.Once, h.Top.Path, h.Low.Once, h.Low.Path}
}

// guardedHyper is one like it in memory of its own, with spare room behind its lists, and what tells whether it is as it was.
func guardedHyper(h impl.Hyper) (impl.Hyper, func() bool) {
	was := cloneHyper(h)
	top, topStays := guardedSig(h.Top)
	low, lowStays := guardedSig(h.Low)
	given := impl.Hyper{Top: top, Root: strings.Clone(h.Root), Low: low}
	return given, func() bool { return topStays() && lowStays() && sameHyper(given, was) }
}

// expectOwnHypers asks that the two answers are new memory: no list of them is another's, and no text of them an argument's.
func expectOwnHypers(t *testing.T, what string, got, again impl.Hyper, given ...string) {
	t.Helper()
	lists := slices.Concat(listsOfHyper(got), listsOfHyper(again))
	for i, list := range lists {
		for _, other := range lists[:i] {
			if listsShare(list, other) {
				t.Errorf("%s: a list of an answer shares memory with another", what)
			}
		}
	}
	expectOwnTexts(t, what, slices.Concat(textsOfHyper(got), textsOfHyper(again)), given...)
}

func expectHyperPublic(t *testing.T, seed string) string {
	t.Helper()
	ask := func(_ []string, text string) []string { return []string{impl.HyperPublic(text)} }
	public := expectChain(t, "HyperPublic", ask, []string{modelHyperPublic(seed)}, nil, seed)[0]
	if len(public) != shortSize {
		t.Errorf("HyperPublic of %s = %x", tellSeed(seed), public)
	}
	return public
}

func expectHyperSign(t *testing.T, seed string, index int, m string) (impl.Hyper, bool) {
	t.Helper()
	what := fmt.Sprintf("HyperSign of %s, index %d and %s", tellSeed(seed), index, tellSeed(m))
	givenSeed, givenText := strings.Clone(seed), strings.Clone(m)
	got, ok := impl.HyperSign(givenSeed, index, givenText)
	again, right := impl.HyperSign(givenSeed, index, givenText)
	want, there := modelHyperSign(seed, index, m)
	if !sameHyper(got, want) || !sameHyper(again, want) || ok != there || right != there {
		t.Errorf("%s = %s, %v, and %s, %v the next time, want %s, %v", what, tellHyper(got), ok, tellHyper(again), right, tellHyper(want), there)
	}
	if givenSeed != seed || givenText != m {
		t.Errorf("%s writes into an argument", what)
	}
	expectOwnHypers(t, what, got, again, givenSeed, givenText)
	return got, ok
}

func expectHyperCheck(t *testing.T, public, m string, h impl.Hyper) bool {
	t.Helper()
	given, stays := guardedHyper(h)
	givenPublic, givenText := strings.Clone(public), strings.Clone(m)
	got, again := impl.HyperCheck(givenPublic, givenText, given), impl.HyperCheck(givenPublic, givenText, given)
	if want := modelHyperCheck(public, m, h); got != want || again != want {
		t.Errorf("HyperCheck by %x, of %s and %s = %v, and %v the next time, want %v", public, tellSeed(m), tellHyper(h), got, again, want)
	}
	if !stays() || givenPublic != public || givenText != m {
		t.Errorf("HyperCheck by %x, of %s and %s writes into an argument", public, tellSeed(m), tellHyper(h))
	}
	return got
}

func expectHyperIndex(t *testing.T, h impl.Hyper) int {
	t.Helper()
	given, stays := guardedHyper(h)
	got, again := impl.HyperIndex(given), impl.HyperIndex(given)
	if want := modelHyperIndex(h); got != want || again != want {
		t.Errorf("HyperIndex of %s = %d, and %d the next time, want %d", tellHyper(h), got, again, want)
	}
	if !stays() {
		t.Errorf("HyperIndex of %s writes into its argument", tellHyper(h))
	}
	return got
}

func expectHyperText(t *testing.T, h impl.Hyper) (string, bool) {
	t.Helper()
	given, stays := guardedHyper(h)
	got, ok := impl.HyperText(given)
	again, right := impl.HyperText(given)
	if want, there := modelHyperText(h); got != want || again != want || ok != there || right != there {
		t.Errorf("HyperText of %s = %x, %v, and %x, %v the next time, want %x, %v", tellHyper(h), got, ok, again, right, want, there)
	}
	if !stays() {
		t.Errorf("HyperText of %s writes into its argument", tellHyper(h))
	}
	expectOwnTexts(t, "HyperText", []string{got, again}, textsOfHyper(given)...)
	return got, ok
}

func expectReadHyper(t *testing.T, text string) (impl.Hyper, bool) {
	t.Helper()
	given := strings.Clone(text)
	got, ok := impl.ReadHyper(given)
	again, right := impl.ReadHyper(given)
	if want, there := modelReadHyper(text); !sameHyper(got, want) || !sameHyper(again, want) || ok != there || right != there {
		t.Errorf("ReadHyper of %x = %s, %v, and %s, %v the next time, want %s, %v", text, tellHyper(got), ok, tellHyper(again), right, tellHyper(want), there)
	}
	if given != text {
		t.Errorf("ReadHyper of %x writes into its argument", text)
	}
	expectOwnHypers(t, "ReadHyper", got, again, given)
	return got, ok
}

// expectHyperComesBack asks that one with right signatures and root is read from its text, and that what is read has that text.
func expectHyperComesBack(t *testing.T, h impl.Hyper) string {
	t.Helper()
	text, ok := expectHyperText(t, h)
	read, right := expectReadHyper(t, text)
	back, good := expectHyperText(t, read)
	if !ok || !right || !good || !sameHyper(read, h) || back != text || len(text) != hyperSize || expectHyperIndex(t, read) != expectHyperIndex(t, h) {
		t.Errorf("%s has the text %x, of which %s is read, which has %x", tellHyper(h), text, tellHyper(read), back)
	}
	return text
}

// expectPromise17 holds the promise, with each of the functions held against its model; the public text is handed in, since it is that of all signatures of a seed.
func expectPromise17(t *testing.T, seed, public string, index int, m string) impl.Hyper {
	t.Helper()
	h, ok := expectHyperSign(t, seed, index, m)
	if !ok || !expectHyperCheck(t, public, m, h) {
		t.Errorf("index %d: %s is not right for %s by %x", index, tellHyper(h), tellSeed(m), public)
	}
	if told := expectHyperIndex(t, h); told != index || h.Top.Leaf != index/treeLeaves || h.Low.Leaf != index%treeLeaves {
		t.Errorf("a signature with index %d tells %d", index, told)
	}
	expectHyperComesBack(t, h)
	return h
}

func expectNotRightHyper(t *testing.T, what, public, m string, h impl.Hyper) {
	t.Helper()
	if expectHyperCheck(t, public, m, h) {
		t.Errorf("%s: %s is right for %s by %x", what, tellHyper(h), tellSeed(m), public)
	}
}

// expectWrongHyper asks of one with a signature that is not right what is refused of it.
func expectWrongHyper(t *testing.T, what, public, m string, h impl.Hyper) {
	t.Helper()
	if index := expectHyperIndex(t, h); index != -1 {
		t.Errorf("%s: HyperIndex of %s = %d, want -1", what, tellHyper(h), index)
	}
	if text, ok := expectHyperText(t, h); text != "" || ok {
		t.Errorf("%s: HyperText of %s = %x, %v, want none", what, tellHyper(h), text, ok)
	}
	for _, by := range []string{public, h.Root, ""} {
		expectNotRightHyper(t, what, by, m, h)
	}
}

func expectHyperNotRead(t *testing.T, what, text string) {
	t.Helper()
	if h, ok := expectReadHyper(t, text); !isZeroHyper(h) || ok {
		t.Errorf("%s: of %x %s is read, %v", what, text, tellHyper(h), ok)
	}
}

func hyperAt(t *testing.T, seed string, index int, m string) impl.Hyper {
	t.Helper()
	h, ok := impl.HyperSign(seed, index, m)
	if !ok {
		t.Fatalf("HyperSign of %s and index %d is refused", tellSeed(seed), index)
	}
	return h
}

func hyperTextOf(t *testing.T, h impl.Hyper) string {
	t.Helper()
	text, ok := impl.HyperText(h)
	if !ok {
		t.Fatalf("HyperText of %s is refused", tellHyper(h))
	}
	return text
}

func withTop(h impl.Hyper, top impl.Sig) impl.Hyper {
	h.Top = top
	return h
}

func withRoot(h impl.Hyper, root string) impl.Hyper {
	h.Root = root
	return h
}

func withLow(h impl.Hyper, low impl.Sig) impl.Hyper {
	h.Low = low
	return h
}

func changedOver(h impl.Hyper) impl.Hyper {
	return impl.Hyper{Top: h.Low, Root: h.Root, Low: h.Top}
}

// turnedSigs are all with one bit of one text turned.
func turnedSigs(s impl.Sig) []namedSig {
	var list []namedSig
	for bit := range 8 * shortSize {
		at, mask := bit/8, byte(1)<<(bit%8)
		for chain, text := range s.Once {
			list = append(list, namedSig{fmt.Sprintf("bit %d of text %d of Once turned", bit, chain), withOnce(s, withText(s.Once, chain, turnedByte(text, at, mask))...)})
		}
		for place, text := range s.Path {
			list = append(list, namedSig{fmt.Sprintf("bit %d of text %d of Path turned", bit, place), withPath(s, withText(s.Path, place, turnedByte(text, at, mask))...)})
		}
	}
	return list
}

func noIndexes() []int {
	return []int{-1, -2, -3, -4, -5, -8, -15, -16, -17, -256, -1 << 32, math.MinInt, math.MinInt + 1, math.MinInt + 4, 16, 17, 18, 19, 20, 31, 32, 63, 64, 255, 256, 257, 1024, 1025, 1 << 32, 1<<32 + 1, math.MaxInt - 4, math.MaxInt}
}

// someIndexes have each another leaf of the top, and another one of its low tree.
func someIndexes() []int {
	return []int{0, 6, 9, 15}
}

func TestTheTreesOfTrees(t *testing.T) {
	if impl.AllLeaves != indexCount {
		t.Errorf("AllLeaves = %d", impl.AllLeaves)
	}
}

// What these tests know comes from another program, which was written down from the chapter by itself.
func TestKnownHypers(t *testing.T) {
	for _, c := range []struct {
		seed         string
		index        int
		m            string
		public, text string
	}{
		{"", 0, "", "5842f01d", "00d7de9e92e11f63a5f6d2c781e5cfa1beac61b6e8e94b5c0b408ec0ef411f66e26b93217a88c1d8718f82117581caf5ac02d11ff100e98de210bc7dee269136d61d120812972817a9e7f6f5d723c6db662dff0cf282811f630a003dcfdf16adccad7a5104f0"},
		{"seed", 6, "m", "34b58f08", "01c8c32255e0ba6a1ff83762a8ab7d53dab1d8fe7403efc97b997fc8cffd34d1d46010a3df2e8fbe984301acd69090c40ba150efb902095dd2820bef93ab0fd55f8f57457d63c0a380aa9885a253dcf9043199627f88a7fd3dd269bad4b99ec8f1083db78f14"},
		{"seed", 9, "m", "34b58f08", "0264d3e17bb6f5e934c7a14dff5fdad640c3143f99e227f90492448d2919855acd8c55e97412dad330119214b49514d1a037bcd8b501fe287799dcf9cfe34cadd7f210368afc1529e341d4c6718399ded9012317a9a0c02c11cae64c2b055e1f43b46ae60dec"},
		{strings.Repeat("\x00", 32), 15, "abc", "7d880b26", "037094d23292cd7b6a9c0b176993a248a9e0d4740c03b4c742857e0a5736b7add1ebd38e9ef05d34daf8e377e348fad088f008026e0388b1791d6653eb43c40b8bf05ae871311fe021957adf92dab22d621384aa3dd11abb14e69e5ede57de66da8a4a83415b"},
		{strings.Repeat("a", 100), 3, strings.Repeat("\xff", 70), "6471c865", "00cc1bec36b282a6941d9313a79317f4987b524cae1d6d44fc831cd6dddbe46835cec81c7087b790e856d866c9a42c974f9f49148403ae5bcd5d68fe6a5cba3568ad5fa2b26004408861ca019aace1ea56332b21bef1aaad01fa8d7a29982a8d0c05de61b654"},
		{"\xff", 12, "", "329e761a", "039fa4c2ceddb332844acb82c452d3b8684bce9b531540aa8c6540a83d03f5f6ed84869e66a23264103fd236c5a656a20384504c0e008db1c98fefdcb40a5f4042ac53fb96fdb53883137bd35280d0b50eb2d4b5585e442195f60bccee92f3354787950b02df"},
		{"t", 4, "l", "bf4e88f0", "017e86950cc3e28c1a3e9206141c36948de3db3923ac6f79ac438d8bacd76194f789da8950de6d185ce8719a8dc88fc4f7f1d84bc9002b26931e7baf3f009a46283b60f7b91d06f69957d4fd5f2e3423bbcd77880103bcdd982795b2f81c85e8c2f10e0b902b"},
	} {
		public, want := bytesOf(t, c.public), bytesOf(t, c.text)
		h := hyperAt(t, c.seed, c.index, c.m)
		if got := impl.HyperPublic(c.seed); got != public {
			t.Errorf("HyperPublic of %s = %x, want %s", tellSeed(c.seed), got, c.public)
		}
		if got := hyperTextOf(t, h); got != want || h.Root != want[sigSize:lowStart] || sigTextOf(t, h.Top) != want[:sigSize] || sigTextOf(t, h.Low) != want[lowStart:] {
			t.Errorf("HyperSign of %s, index %d and %s = %s, want the text %s", tellSeed(c.seed), c.index, tellSeed(c.m), tellHyper(h), c.text)
		}
		read, ok := impl.ReadHyper(want)
		if !ok || !sameHyper(read, h) || impl.HyperIndex(read) != c.index || !impl.HyperCheck(public, c.m, read) || impl.HyperCheck(public, c.m+"!", read) {
			t.Errorf("of %s is read %s, %v", c.text, tellHyper(read), ok)
		}
	}
}

func TestHyperPublicTextsOfSeeds(t *testing.T) {
	met := map[string]string{}
	seeds := slices.Concat(chainTexts(), greatTexts(), []string{"t", "tt", "l", "\x00l", "seed\x00l"})
	for n := range 100 {
		seeds = append(seeds, fmt.Sprint("seed ", n))
	}
	for _, seed := range seeds {
		public := expectHyperPublic(t, seed)
		if other, there := met[public]; there {
			t.Errorf("%s and %s have one public text", tellSeed(seed), tellSeed(other))
		}
		met[public] = seed
		if public != impl.PublicOf(seed+"t") || public == impl.PublicOf(seed) {
			t.Errorf("HyperPublic of %s = %x", tellSeed(seed), public)
		}
	}
}

// Promise 17.
func TestHypersAreRight(t *testing.T) {
	texts := chainTexts()
	for i, seed := range texts {
		public := expectHyperPublic(t, seed)
		for index := range indexCount {
			expectPromise17(t, seed, public, index, texts[(i+7*index)%len(texts)])
		}
		expectPromise17(t, seed, public, i%indexCount, "")
	}
	for i, great := range greatTexts() {
		expectPromise17(t, great, impl.HyperPublic(great), 5*i, "")
		expectPromise17(t, "", impl.HyperPublic(""), 5*i, great)
	}
}

func TestHypersOfManyTextsAreRight(t *testing.T) {
	for _, seed := range []string{"", "many texts"} {
		public := expectHyperPublic(t, seed)
		for index := range indexCount {
			for _, m := range []string{"", "m", textOfZeros, textOfFifteens, textOf(64)} {
				expectPromise17(t, seed, public, index, m)
			}
		}
		for i, m := range chainTexts() {
			expectPromise17(t, seed, public, i%indexCount, m)
			expectPromise17(t, seed, public, (5*i+3)%indexCount, fmt.Sprint("text ", i))
		}
	}
}

func TestHypersOfTextsOfEachSumAreRight(t *testing.T) {
	public := expectHyperPublic(t, "each sum")
	for sum, m := range textsOfSums(t) {
		expectPromise17(t, "each sum", public, sum%indexCount, m)
	}
}

func TestDrawnHypersAreRight(t *testing.T) {
	draw := rand.New(rand.NewPCG(17, 1))
	for range 150 {
		seed := drawText(draw)
		expectPromise17(t, seed, expectHyperPublic(t, seed), draw.IntN(indexCount), drawText(draw))
	}
}

func TestHypersAreOfTheirTrees(t *testing.T) {
	for _, seed := range []string{"", "seed", textOf(32), "t", "l"} {
		for index := range indexCount {
			low := seed + string([]byte{byte(index / 4)}) + "l"
			for _, m := range []string{"", "m", textOfFifteens} {
				h := hyperAt(t, seed, index, m)
				if h.Root != impl.PublicOf(low) || !sameSig(h.Low, signedAt(t, low, index%4, m)) || !sameSig(h.Top, signedAt(t, seed+"t", index/4, h.Root)) {
					t.Errorf("HyperSign of %s, index %d and %s = %s", tellSeed(seed), index, tellSeed(m), tellHyper(h))
				}
			}
		}
	}
}

// A leaf of the top signs just the root of its low tree, whatever is signed below; so it may do that again.
func TestTopsSignNothingButTheirRoots(t *testing.T) {
	tops, roots := map[string]int{}, map[string]int{}
	for index := range indexCount {
		for _, m := range []string{"", "m", textOfZeros, textOfFifteens} {
			h := hyperAt(t, "tops", index, m)
			tops[sigTextOf(t, h.Top)]++
			roots[h.Root]++
			if !impl.CheckSig(impl.HyperPublic("tops"), h.Root, h.Top) || !impl.CheckSig(h.Root, m, h.Low) {
				t.Errorf("%s is not right", tellHyper(h))
			}
		}
	}
	for _, met := range []map[string]int{tops, roots} {
		if len(met) != treeLeaves {
			t.Errorf("there are %d on top, want %d", len(met), treeLeaves)
		}
		for _, times := range met {
			if times != indexCount {
				t.Errorf("one on top is met %d times, want %d", times, indexCount)
			}
		}
	}
}

func TestNoIndexSigns(t *testing.T) {
	for _, seed := range []string{"", "seed", textOf(32)} {
		for _, m := range []string{"", "m", textOf(1000)} {
			for _, index := range noIndexes() {
				if h, ok := expectHyperSign(t, seed, index, m); !isZeroHyper(h) || ok {
					t.Errorf("HyperSign of %s, index %d and %s = %s, %v, want none", tellSeed(seed), index, tellSeed(m), tellHyper(h), ok)
				}
			}
		}
	}
	for index := -1100; index <= 1100; index++ {
		if h, ok := impl.HyperSign("seed", index, "m"); ok != (index >= 0 && index < indexCount) || ok == isZeroHyper(h) {
			t.Errorf("whether index %d signs: %v", index, ok)
		}
	}
}

func TestHypersAreNotRightByOtherPublicTexts(t *testing.T) {
	seeds := []string{"", "s", "seed", "seee", "seedt", "t", "another seed", textOf(32), textOf(33)}
	for _, seed := range seeds {
		public := impl.HyperPublic(seed)
		for _, index := range someIndexes() {
			h := expectPromise17(t, seed, public, index, "m")
			for _, other := range seeds {
				if right := expectHyperCheck(t, impl.HyperPublic(other), "m", h); right != (other == seed) {
					t.Errorf("a signature by %s is right by the public text of %s: %v", tellSeed(seed), tellSeed(other), right)
				}
			}
			for _, other := range append(otherSizes(public), "abcd", "\x00\x00\x00\x00", h.Root, h.Top.Path[0], h.Top.Path[1], h.Low.Path[1], impl.PublicOf(seed), textOf(1000)) {
				expectNotRightHyper(t, "another public text", other, "m", h)
			}
			for bit := range 8 * shortSize {
				expectNotRightHyper(t, fmt.Sprintf("bit %d of the public text turned", bit), turnedByte(public, bit/8, 1<<(bit%8)), "m", h)
			}
		}
	}
}

func TestHypersAreNotRightForOtherTexts(t *testing.T) {
	texts := slices.Concat(chainTexts(), []string{textOfZeros, textOfFifteens, "text", "texT", "text ", " text", "txet"})
	public := impl.HyperPublic("other texts")
	for i, m := range texts {
		h := expectPromise17(t, "other texts", public, i%indexCount, m)
		for _, other := range append(texts, h.Root, public) {
			if right := expectHyperCheck(t, public, other, h); right != (other == m) {
				t.Errorf("a signature of %s is right for %s: %v", tellSeed(m), tellSeed(other), right)
			}
		}
	}
}

// Of a text just its Chop is signed, as the chapters have it; these two have one.
func TestTextsWithOneChopAreSignedAlikeByTrees(t *testing.T) {
	public := impl.HyperPublic("one chop")
	for index := range indexCount {
		first, other := expectPromise17(t, "one chop", public, index, "69235"), expectPromise17(t, "one chop", public, index, "95303")
		if !sameHyper(first, other) || !expectHyperCheck(t, public, "95303", first) {
			t.Errorf("index %d does not sign two texts with one Chop alike", index)
		}
	}
}

func TestHypersWithAnotherRoot(t *testing.T) {
	for _, seed := range []string{"", "other roots"} {
		public := impl.HyperPublic(seed)
		for index := range indexCount {
			h := expectPromise17(t, seed, public, index, "m")
			others := append(wrongTexts(h.Root), "abcd", "\x00\x00\x00\x00", "\xff\xff\xff\xff", public, h.Low.Path[1], hyperAt(t, seed, (index+4)%indexCount, "m").Root, impl.PublicOf(seed))
			for bit := range 8 * shortSize {
				others = append(others, turnedByte(h.Root, bit/8, 1<<(bit%8)))
			}
			for _, other := range others {
				changed := withRoot(h, other)
				expectNotRightHyper(t, "another root", public, "m", changed)
				// Also when the top signs just that root, the low tree has it not.
				expectNotRightHyper(t, "another root that is signed", public, "m", withTop(changed, signedAt(t, seed+"t", index/treeLeaves, other)))
				if told := expectHyperIndex(t, changed); told != index {
					t.Errorf("with the root %x, index %d is told as %d", other, index, told)
				}
			}
		}
	}
}

func TestRootsOfAnotherLength(t *testing.T) {
	public := impl.HyperPublic("lengths")
	for _, index := range someIndexes() {
		h := hyperAt(t, "lengths", index, "m")
		for size := range 300 {
			changed := withRoot(h, textOf(size))
			text, ok := expectHyperText(t, changed)
			if ok != (size == shortSize) || ok == (text == "") || expectHyperIndex(t, changed) != index {
				t.Errorf("with a root of %d bytes, HyperText = %x, %v", size, text, ok)
			}
			expectNotRightHyper(t, "a root of another length", public, "m", changed)
		}
		for _, root := range slices.Concat(wrongTexts(h.Root), greatTexts()) {
			changed := withRoot(h, root)
			if text, ok := expectHyperText(t, changed); text != "" || ok || expectHyperIndex(t, changed) != index {
				t.Errorf("with a root of %d bytes, HyperText = %x, %v", len(root), text, ok)
			}
			expectNotRightHyper(t, "a root of another length", public, "m", changed)
		}
	}
}

// Bytes are counted, not letters.
func TestRootsOfLetters(t *testing.T) {
	h := hyperAt(t, "letters", 11, "m")
	for root, right := range map[string]bool{"\xc3\xa4\xc3\xb6": true, "\xf0\x9f\x94\x91": true, "\xe2\x82\xac!": true, "\xc3\xa4\xc3\xb6\xc3\xbc\xc3\x9f": false, "\xe2\x82\xac": false, "\xff\xfe\xfd\xfc": true} {
		changed := withRoot(h, root)
		if right {
			expectHyperComesBack(t, changed)
		} else if text, ok := expectHyperText(t, changed); text != "" || ok {
			t.Errorf("with the root %s HyperText = %x, %v", root, text, ok)
		}
	}
}

// The top signs whatever root it is asked to: a low tree of another seed is as good.
func TestLowTreesOfOtherSeeds(t *testing.T) {
	public := impl.HyperPublic("other low trees")
	for i, seed := range chainTexts() {
		root, top, leaf := impl.PublicOf(seed), i%treeLeaves, i/treeLeaves%treeLeaves
		h := impl.Hyper{Top: signedAt(t, "other low treest", top, root), Root: root, Low: signedAt(t, seed, leaf, "m")}
		if !expectHyperCheck(t, public, "m", h) || expectHyperIndex(t, h) != 4*top+leaf {
			t.Errorf("%s is not right by %x", tellHyper(h), public)
		}
		expectHyperComesBack(t, h)
		expectNotRightHyper(t, "another text", public, "n", h)
		expectNotRightHyper(t, "the top of another root", public, "m", withTop(h, signedAt(t, "other low treest", top, root+"!")))
		expectNotRightHyper(t, "a low one of another text", public, "m", withLow(h, signedAt(t, seed, leaf, "n")))
	}
}

func TestHypersWithTopAndLowChangedOver(t *testing.T) {
	for _, seed := range []string{"", "changed over"} {
		public := impl.HyperPublic(seed)
		for index := range indexCount {
			h := expectPromise17(t, seed, public, index, "m")
			changed := changedOver(h)
			for _, by := range []string{public, h.Root, ""} {
				for _, m := range []string{"m", h.Root, ""} {
					expectNotRightHyper(t, "Top and Low changed for each other", by, m, changed)
					expectNotRightHyper(t, "Top and Low changed for each other, and another root", by, m, withRoot(changed, public))
				}
			}
			if told := expectHyperIndex(t, changed); told != 4*(index%4)+index/4 {
				t.Errorf("index %d, with Top and Low changed for each other, tells %d", index, told)
			}
			if text := expectHyperComesBack(t, changed); text != sigTextOf(t, h.Low)+h.Root+sigTextOf(t, h.Top) {
				t.Errorf("%s has the text %x", tellHyper(changed), text)
			}
			expectNotRightHyper(t, "Top in place of Low", public, "m", withLow(h, h.Top))
			expectNotRightHyper(t, "Low in place of Top", public, "m", withTop(h, h.Low))
		}
	}
}

func TestHypersWithPartsOfAnotherIndex(t *testing.T) {
	public := impl.HyperPublic("parts")
	for index := range indexCount {
		h := expectPromise17(t, "parts", public, index, "m")
		for other := range indexCount {
			its := hyperAt(t, "parts", other, "m")
			sameTop, sameAll := other/treeLeaves == index/treeLeaves, other == index
			for _, c := range []struct {
				what    string
				changed impl.Hyper
				right   bool
			}{
				{"another's Top", withTop(h, its.Top), sameTop},
				{"another's Root", withRoot(h, its.Root), sameTop},
				{"another's Low", withLow(h, its.Low), sameTop},
				{"another's Top and Root", withRoot(withTop(h, its.Top), its.Root), sameTop},
				{"another's leaf of the low tree", withLow(h, withLeaf(h.Low, other%treeLeaves)), other%treeLeaves == index%treeLeaves},
				{"another's leaf of the top", withTop(h, withLeaf(h.Top, other/treeLeaves)), sameTop},
				{"another one whole", its, true},
				{"another's Once below", withLow(h, withOnce(h.Low, its.Low.Once...)), sameAll},
			} {
				if right := expectHyperCheck(t, public, "m", c.changed); right != c.right {
					t.Errorf("index %d with %s, of %d, is right: %v", index, c.what, other, right)
				}
				expectHyperComesBack(t, c.changed)
			}
		}
	}
}

func TestHypersWithOneByteTurned(t *testing.T) {
	public := impl.HyperPublic("turned")
	for i, m := range []string{"", "m", textOfZeros, textOfFifteens} {
		h := expectPromise17(t, "turned", public, someIndexes()[i], m)
		for _, turned := range turnedSigs(h.Top) {
			expectNotRightHyper(t, "on top "+turned.what, public, m, withTop(h, turned.sig))
		}
		for _, turned := range turnedSigs(h.Low) {
			expectNotRightHyper(t, "below "+turned.what, public, m, withLow(h, turned.sig))
		}
	}
}

// Signatures with right lists and leaves have an index and a text, whatever they sign.
func TestRightHypersOfAnyTexts(t *testing.T) {
	draw := rand.New(rand.NewPCG(17, 2))
	met := map[string]impl.Hyper{}
	list := rightSigs()
	for range 20 {
		list = append(list, drawSig(draw))
	}
	for i, top := range list {
		for _, low := range list {
			h := impl.Hyper{Top: top, Root: drawBytes(draw, shortSize), Low: low}
			if index := expectHyperIndex(t, h); index != 4*top.Leaf+low.Leaf {
				t.Errorf("HyperIndex of %s = %d", tellHyper(h), index)
			}
			if index := expectHyperIndex(t, withRoot(h, textOf(i))); index != 4*top.Leaf+low.Leaf {
				t.Errorf("HyperIndex of %s with a root of %d bytes = %d", tellHyper(h), i, index)
			}
			text := expectHyperComesBack(t, h)
			if other, there := met[text]; there {
				t.Errorf("%s and %s have one text", tellHyper(h), tellHyper(other))
			}
			met[text] = h
		}
		expectNotRightHyper(t, "signatures of anything", impl.HyperPublic(""), "m", impl.Hyper{Top: top, Root: "abcd", Low: top})
	}
}

// Whoever made the signatures, they are asked just for the roots that they make.
func TestHypersAreAskedForTheRootsThatTheyMake(t *testing.T) {
	draw := rand.New(rand.NewPCG(17, 3))
	for range 200 {
		top, low, m := drawSig(draw), drawSig(draw), drawText(draw)
		root := impl.RootBy(impl.OnceFound(low.Once, low.Leaf, m), low.Leaf, low.Path)
		public := impl.RootBy(impl.OnceFound(top.Once, top.Leaf, root), top.Leaf, top.Path)
		h := impl.Hyper{Top: top, Root: root, Low: low}
		if !expectHyperCheck(t, public, m, h) {
			t.Errorf("%s is not right by %x, the root that it makes", tellHyper(h), public)
		}
		expectNotRightHyper(t, "a root that it does not make", public, m, withRoot(h, turnedByte(root, 3, 1)))
		expectNotRightHyper(t, "another public text", turnedByte(public, 0, 128), m, h)
	}
}

func TestHypersThatAreNotRight(t *testing.T) {
	public := impl.HyperPublic("not right")
	for i, m := range []string{"", "m", textOfZeros, textOfFifteens} {
		h := hyperAt(t, "not right", someIndexes()[i], m)
		lows := wrongSigs(h.Low)
		for j, top := range wrongSigs(h.Top) {
			expectWrongHyper(t, "on top "+top.what, public, m, withTop(h, top.sig))
			expectWrongHyper(t, "both "+top.what, public, m, withLow(withTop(h, top.sig), lows[j].sig))
		}
		for _, low := range lows {
			expectWrongHyper(t, "below "+low.what, public, m, withLow(h, low.sig))
			expectWrongHyper(t, "no root, and below "+low.what, public, m, withRoot(withLow(h, low.sig), ""))
		}
	}
	for _, s := range rightSigs() {
		for _, wrong := range wrongSigs(s) {
			expectWrongHyper(t, "on top "+wrong.what, public, "m", impl.Hyper{Top: wrong.sig, Root: "root", Low: s})
			expectWrongHyper(t, "below "+wrong.what, public, "m", impl.Hyper{Top: s, Root: "root", Low: wrong.sig})
		}
	}
}

// A wrong signature is not right by the root that it would make, either.
func TestWrongHypersByTheRootsThatTheyWouldMake(t *testing.T) {
	draw := rand.New(rand.NewPCG(17, 4))
	top, low := drawSig(draw), drawSig(draw)
	for _, wrong := range wrongSigs(low) {
		root := impl.RootBy(impl.OnceFound(wrong.sig.Once, wrong.sig.Leaf, "m"), wrong.sig.Leaf, wrong.sig.Path)
		public := impl.RootBy(impl.OnceFound(top.Once, top.Leaf, root), top.Leaf, top.Path)
		expectWrongHyper(t, "below "+wrong.what, public, "m", impl.Hyper{Top: top, Root: root, Low: wrong.sig})
	}
	root := impl.RootBy(impl.OnceFound(low.Once, low.Leaf, "m"), low.Leaf, low.Path)
	for _, wrong := range wrongSigs(top) {
		public := impl.RootBy(impl.OnceFound(wrong.sig.Once, wrong.sig.Leaf, root), wrong.sig.Leaf, wrong.sig.Path)
		expectWrongHyper(t, "on top "+wrong.what, public, "m", impl.Hyper{Top: wrong.sig, Root: root, Low: low})
	}
}

func TestHyperIndexAtItsEdges(t *testing.T) {
	h := hyperAt(t, "edges", 0, "m")
	for top := -20; top <= 20; top++ {
		for low := -20; low <= 20; low++ {
			changed := withLow(withTop(h, withLeaf(h.Top, top)), withLeaf(h.Low, low))
			want := -1
			if top >= 0 && top <= 3 && low >= 0 && low <= 3 {
				want = 4*top + low
			}
			text, ok := expectHyperText(t, changed)
			if index := expectHyperIndex(t, changed); index != want || ok != (want >= 0) || ok == (text == "") {
				t.Errorf("the leaves %d and %d have index %d, and the text %x, %v", top, low, index, text, ok)
			}
		}
	}
	for _, leaf := range noLeaves() {
		for _, changed := range []impl.Hyper{withTop(h, withLeaf(h.Top, leaf)), withLow(h, withLeaf(h.Low, leaf))} {
			expectWrongHyper(t, fmt.Sprint("leaf ", leaf), impl.HyperPublic("edges"), "m", changed)
		}
	}
}

// The other tests hand in lists with spare room behind them, which are never nil.
func TestHypersWithoutLists(t *testing.T) {
	public := impl.HyperPublic("no lists")
	h := hyperAt(t, "no lists", 0, "m")
	for _, none := range [][]string{nil, {}} {
		for _, wrong := range []impl.Hyper{{}, {Root: h.Root}, {Top: h.Top, Root: h.Root}, {Root: h.Root, Low: h.Low},
			{Top: impl.Sig{Once: none, Path: h.Top.Path}, Root: h.Root, Low: h.Low}, {Top: impl.Sig{Once: h.Top.Once, Path: none}, Root: h.Root, Low: h.Low},
			{Top: h.Top, Root: h.Root, Low: impl.Sig{Once: none, Path: h.Low.Path}}, {Top: h.Top, Root: h.Root, Low: impl.Sig{Once: h.Low.Once, Path: none}}} {
			text, ok := impl.HyperText(wrong)
			if impl.HyperIndex(wrong) != -1 || impl.HyperCheck(public, "m", wrong) || impl.HyperCheck("", "", wrong) || text != "" || ok {
				t.Errorf("%s is right, or has the text %x, %v", tellHyper(wrong), text, ok)
			}
		}
	}
}

// The bytes are those of a right one, all of them and in order, but the root has too many of them, or too few.
func TestHypersThatAreWronglyCut(t *testing.T) {
	h := hyperAt(t, "wrongly cut", 7, "m")
	public := impl.HyperPublic("wrongly cut")
	end := treeHeight - 1
	last := h.Top.Path[end]
	for cut := range shortSize {
		shorter := withTop(h, withPath(h.Top, withText(h.Top.Path, end, last[:cut])...))
		expectWrongHyper(t, "the root has bytes of Top", public, "m", withRoot(shorter, last[cut:]+h.Root))
		longer := withTop(h, withPath(h.Top, withText(h.Top.Path, end, last+h.Root[:cut+1])...))
		expectWrongHyper(t, "Top has bytes of the root", public, "m", withRoot(longer, h.Root[cut+1:]))
	}
	more := withTop(h, withPath(h.Top, append(slices.Clone(h.Top.Path), h.Root)...))
	expectWrongHyper(t, "the root in Top's Path", public, "m", withRoot(more, ""))
	fewer := withTop(h, withPath(h.Top, h.Top.Path[:end]...))
	expectWrongHyper(t, "Top's last text in the root", public, "m", withRoot(fewer, last+h.Root))
}

func TestHyperTextsThatAreCut(t *testing.T) {
	for _, index := range someIndexes() {
		h := hyperAt(t, "cut", index, "m")
		text := expectHyperComesBack(t, h)
		for size := range len(text) {
			expectHyperNotRead(t, fmt.Sprint("cut at ", size), text[:size])
			expectHyperNotRead(t, fmt.Sprint("cut off its first ", size+1), text[size+1:])
			expectHyperNotRead(t, fmt.Sprint("without its byte ", size), text[:size]+text[size+1:])
			expectHyperNotRead(t, fmt.Sprint("with its byte twice ", size), text[:size]+text[size:size+1]+text[size:])
		}
		for b := range 256 {
			expectHyperNotRead(t, fmt.Sprint("with a byte ", b, " behind it"), text+modelByte(b))
			expectHyperNotRead(t, fmt.Sprint("with a byte ", b, " ahead of it"), modelByte(b)+text)
		}
		for _, more := range []string{"abc", "abcd", "abcdefgh", text[:sigSize], text[lowStart:], text, textOf(1000)} {
			expectHyperNotRead(t, fmt.Sprintf("with %d bytes behind it", len(more)), text+more)
		}
		expectHyperNotRead(t, "Top's text alone", sigTextOf(t, h.Top))
		expectHyperNotRead(t, "both texts without a root", sigTextOf(t, h.Top)+sigTextOf(t, h.Low))
	}
}

func TestHyperTextsByTheirLeaves(t *testing.T) {
	for _, behind := range []string{hyperTextOf(t, hyperAt(t, "leaves", 15, "m")), strings.Repeat("\x00", hyperSize), strings.Repeat("\x03", hyperSize)} {
		for top := range 256 {
			for _, low := range []int{0, 1, 2, 3, 4, 5, 7, 8, 127, 128, 251, 252, 255, top} {
				text := modelByte(top) + behind[1:lowStart] + modelByte(low) + behind[lowStart+1:]
				if top >= treeLeaves || low >= treeLeaves {
					expectHyperNotRead(t, fmt.Sprintf("the leaves %d and %d", top, low), text)
					continue
				}
				h, ok := expectReadHyper(t, text)
				if !ok || expectHyperIndex(t, h) != 4*top+low || h.Root != behind[sigSize:lowStart] || expectHyperComesBack(t, h) != text {
					t.Errorf("of %x %s is read, %v", text, tellHyper(h), ok)
				}
			}
		}
		for low := range 256 {
			h, ok := expectReadHyper(t, behind[:lowStart]+modelByte(low)+behind[lowStart+1:])
			if ok != (low < treeLeaves) || ok && h.Low.Leaf != low {
				t.Errorf("with a low leaf %d, %s is read, %v", low, tellHyper(h), ok)
			}
		}
	}
}

func TestTextsThatAreNoHypers(t *testing.T) {
	expectHyperNotRead(t, "the empty text", "")
	for size := range 300 {
		for _, text := range []string{strings.Repeat("\x00", size), strings.Repeat("\x03", size), textOf(size), strings.Repeat("\xff", size)} {
			h, ok := expectReadHyper(t, text)
			if there := size == hyperSize && text[0] < treeLeaves && text[lowStart] < treeLeaves; ok != there || there == isZeroHyper(h) {
				t.Errorf("of %d bytes %x %s is read, %v", size, text, tellHyper(h), ok)
			}
		}
	}
	for _, great := range []string{textOf(impl.MaxText), textOf(impl.MaxText + 1), strings.Repeat("\x00", 20000)} {
		expectHyperNotRead(t, "a great text", great)
	}
	figures, _ := impl.Hex(hyperTextOf(t, hyperAt(t, "hex", 0, "m")))
	expectHyperNotRead(t, "in figures", figures)
}

func TestDrawnTextsOfHypers(t *testing.T) {
	draw := rand.New(rand.NewPCG(17, 5))
	read := 0
	for range 2000 {
		text := drawBytes(draw, hyperSize+draw.IntN(3)-1)
		if draw.IntN(3) > 0 {
			text = modelByte(draw.IntN(5)) + text[1:lowStart] + modelByte(draw.IntN(5)) + text[lowStart+1:]
		}
		h, ok := expectReadHyper(t, text)
		if !ok {
			continue
		}
		read++
		if back := expectHyperComesBack(t, h); back != text {
			t.Errorf("of %x %s is read, which has %x", text, tellHyper(h), back)
		}
	}
	if read < 100 {
		t.Errorf("of the drawn texts just %d are read", read)
	}
}

// Each byte that is turned in a text is read as another signature, which is not right, or as none.
func TestHyperTextsWithOneByteTurned(t *testing.T) {
	public := impl.HyperPublic("turned text")
	for _, index := range someIndexes() {
		h := hyperAt(t, "turned text", index, "m")
		text := hyperTextOf(t, h)
		for bit := range 8 * len(text) {
			read, ok := expectReadHyper(t, turnedByte(text, bit/8, 1<<(bit%8)))
			if sameHyper(read, h) || expectHyperCheck(t, public, "m", read) {
				t.Errorf("with bit %d turned, %s is read, %v", bit, tellHyper(read), ok)
			}
		}
	}
}

// expectApart puts texts behind each list in turn, and clears them: the other lists stay as they were.
func expectApart(t *testing.T, what string, h impl.Hyper) {
	t.Helper()
	lists, was := listsOfHyper(h), listsOfHyper(cloneHyper(h))
	for i, list := range lists {
		clear(append(list, "more", "than", "that"))
		clear(list)
		for j := i + 1; j < len(lists); j++ {
			if !slices.Equal(lists[j], was[j]) {
				t.Errorf("%s: what is written into list %d is seen in list %d", what, i, j)
			}
		}
	}
}

func TestHypersShareNoMemory(t *testing.T) {
	public := impl.HyperPublic("own memory")
	for _, m := range []string{"m", textOfZeros, textOfFifteens} {
		first, again := hyperAt(t, "own memory", 6, m), hyperAt(t, "own memory", 6, m)
		want, text := cloneHyper(again), hyperTextOf(t, again)
		expectApart(t, "HyperSign", first)
		third := hyperAt(t, "own memory", 6, m)
		if !sameHyper(again, want) || !sameHyper(third, want) || !impl.HyperCheck(public, m, again) {
			t.Errorf("what is written into %s is seen in another", tellHyper(want))
		}
		read, _ := impl.ReadHyper(text)
		expectApart(t, "ReadHyper", read)
		if other, ok := impl.ReadHyper(text); !ok || !sameHyper(other, want) || hyperTextOf(t, again) != text {
			t.Errorf("what is written into what was read is seen in %s", tellHyper(other))
		}
		expectApart(t, "HyperSign", again)
		if _, ok := impl.HyperText(again); ok || text != hyperTextOf(t, third) {
			t.Error("a text changes with its signature")
		}
	}
}

// The signatures may have one list for both, and their texts may be pieces of one text.
func TestHypersWhoseListsLieTogether(t *testing.T) {
	h := hyperAt(t, "together", 13, "m")
	public := impl.HyperPublic("together")
	text := hyperTextOf(t, h)
	var all []string
	for at := 1; at < sigSize; at += shortSize {
		all = append(all, text[at:at+shortSize])
	}
	for at := lowStart + 1; at < hyperSize; at += shortSize {
		all = append(all, text[at:at+shortSize])
	}
	was := slices.Clone(all)
	half := chainCount + treeHeight
	together := impl.Hyper{Top: impl.Sig{Leaf: 3, Once: all[:chainCount], Path: all[chainCount:half]}, Root: text[sigSize:lowStart], Low: impl.Sig{Leaf: 1, Once: all[half : half+chainCount], Path: all[half+chainCount:]}}
	own, ok := impl.HyperText(together)
	if !ok || own != text || sharesMemory(own, text) || impl.HyperIndex(together) != 13 || !impl.HyperCheck(public, "m", together) || !slices.Equal(all, was) {
		t.Errorf("%s has the text %x, %v", tellHyper(together), own, ok)
	}
	alike := impl.Hyper{Top: together.Top, Root: all[0], Low: together.Top}
	own, ok = impl.HyperText(alike)
	if !ok || own != text[:sigSize]+all[0]+text[:sigSize] || impl.HyperIndex(alike) != 15 || impl.HyperCheck(public, "m", alike) || !slices.Equal(all, was) {
		t.Errorf("%s has the text %x, %v", tellHyper(alike), own, ok)
	}
	expectHyperComesBack(t, alike)
}

func TestHypersAmongMany(t *testing.T) {
	var callers sync.WaitGroup
	public := modelHyperPublic("among many")
	for caller := range 8 {
		callers.Go(func() {
			for n := range 8 {
				index, m := (2*caller+3*n)%indexCount, fmt.Sprint(caller, " ", n)
				h, ok := impl.HyperSign("among many", index, m)
				want, _ := modelHyperSign("among many", index, m)
				text, right := impl.HyperText(h)
				read, good := impl.ReadHyper(text)
				if !ok || !right || !good || !sameHyper(h, want) || !sameHyper(read, want) || impl.HyperIndex(read) != index || !impl.HyperCheck(public, m, read) || impl.HyperPublic("among many") != public {
					t.Error("a signature of trees among many is another one")
				}
				if _, ok := impl.HyperSign("among many", indexCount+n, m); ok {
					t.Error("no index signs among many")
				}
			}
		})
	}
	callers.Wait()
}
