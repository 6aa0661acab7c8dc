package tests

import (
	"fmt"
	"math"
	"math/rand/v2"
	"slices"
	"strings"
	"sync"
	"testing"

	"loop.example/g00186/impl"
)

const sigSize = 49

func modelPublics(seed string) []string {
	var publics []string
	for leaf := range 4 {
		publics = append(publics, modelOncePublic(modelOnceKey(seed, leaf), leaf))
	}
	return publics
}

func modelPublicOf(seed string) string {
	return modelRootOf(modelPublics(seed))
}

func modelSignAt(seed string, leaf int, m string) (impl.Sig, bool) {
	switch leaf {
	case 0, 1, 2, 3:
		return impl.Sig{Leaf: leaf, Once: modelOnceSign(modelOnceKey(seed, leaf), leaf, m), Path: modelPathOf(modelPublics(seed), leaf)}, true
	}
	return impl.Sig{}, false
}

func modelSigOk(s impl.Sig) bool {
	switch s.Leaf {
	case 0, 1, 2, 3:
	default:
		return false
	}
	for _, text := range slices.Concat(s.Once, s.Path) {
		if len(text) != 4 {
			return false
		}
	}
	return len(s.Once) == 10 && len(s.Path) == 2
}

func modelCheckSig(public, m string, s impl.Sig) bool {
	return modelSigOk(s) && public == modelRootBy(modelOnceFound(s.Once, s.Leaf, m), s.Leaf, s.Path)
}

func modelSigText(s impl.Sig) (string, bool) {
	if !modelSigOk(s) {
		return "", false
	}
	text := string([]byte{byte(s.Leaf)})
	for _, x := range s.Once {
		text += x
	}
	for _, x := range s.Path {
		text += x
	}
	return text, true
}

// modelReadSig takes the one signature that could have this text, and asks for its text.
func modelReadSig(text string) (impl.Sig, bool) {
	var s impl.Sig
	for i, b := range []byte(text) {
		switch {
		case i == 0:
			s.Leaf = int(b)
		case i <= 40 && i%4 == 1:
			s.Once = append(s.Once, "")
			fallthrough
		case i <= 40:
			s.Once[len(s.Once)-1] += string([]byte{b})
		case i%4 == 1:
			s.Path = append(s.Path, "")
			fallthrough
		default:
			s.Path[len(s.Path)-1] += string([]byte{b})
		}
	}
	if back, ok := modelSigText(s); !ok || back != text {
		return impl.Sig{}, false
	}
	return s, true
}

func sameSig(a, b impl.Sig) bool {
	return a.Leaf == b.Leaf && slices.Equal(a.Once, b.Once) && slices.Equal(a.Path, b.Path)
}

func isZeroSig(s impl.Sig) bool {
	return sameSig(s, impl.Sig{})
}

func tellSig(s impl.Sig) string {
	return fmt.Sprintf("the signature of leaf %d, %x and %x", s.Leaf, s.Once, s.Path)
}

func cloneSig(s impl.Sig) impl.Sig {
	return impl.Sig{Leaf: s.Leaf, Once: cloneTexts(s.Once), Path: cloneTexts(s.Path)}
}

func textsOfSig(s impl.Sig) []string {
	return slices.Concat(s.Once, s.Path)
}

// guardedSig is one like it in memory of its own, with spare room behind its lists, and what tells whether it is as it was.
func guardedSig(s impl.Sig) (impl.Sig, func() bool) {
	own, was := cloneSig(s), cloneSig(s)
	once, onceStays := guarded(own.Once, "spare room")
	path, pathStays := guarded(own.Path, "spare room")
	given := impl.Sig{Leaf: s.Leaf, Once: once, Path: path}
	return given, func() bool { return onceStays() && pathStays() && sameSig(given, was) }
}

// expectOwnSigs asks that the two answers are new memory: no list of them is another's, and no text of them an argument's.
func expectOwnSigs(t *testing.T, what string, got, again impl.Sig, given ...string) {
	t.Helper()
	lists := [][]string{got.Once, got.Path, again.Once, again.Path}
	for i, list := range lists {
		for _, other := range lists[:i] {
			if listsShare(list, other) {
				t.Errorf("%s: a list of an answer shares memory with another", what)
			}
		}
	}
	expectOwnTexts(t, what, slices.Concat(textsOfSig(got), textsOfSig(again)), given...)
}

func expectPublicOf(t *testing.T, seed string) string {
	t.Helper()
	ask := func(_ []string, text string) []string { return []string{impl.PublicOf(text)} }
	public := expectChain(t, "PublicOf", ask, []string{modelPublicOf(seed)}, nil, seed)[0]
	if len(public) != shortSize {
		t.Errorf("PublicOf of %s = %x", tellSeed(seed), public)
	}
	return public
}

func expectSignAt(t *testing.T, seed string, leaf int, m string) (impl.Sig, bool) {
	t.Helper()
	what := fmt.Sprintf("SignAt of %s, leaf %d and %s", tellSeed(seed), leaf, tellSeed(m))
	givenSeed, givenText := strings.Clone(seed), strings.Clone(m)
	got, ok := impl.SignAt(givenSeed, leaf, givenText)
	again, right := impl.SignAt(givenSeed, leaf, givenText)
	want, there := modelSignAt(seed, leaf, m)
	if !sameSig(got, want) || !sameSig(again, want) || ok != there || right != there {
		t.Errorf("%s = %s, %v, and %s, %v the next time, want %s, %v", what, tellSig(got), ok, tellSig(again), right, tellSig(want), there)
	}
	if givenSeed != seed || givenText != m {
		t.Errorf("%s writes into an argument", what)
	}
	expectOwnSigs(t, what, got, again, givenSeed, givenText)
	return got, ok
}

func expectSigOk(t *testing.T, s impl.Sig) bool {
	t.Helper()
	given, stays := guardedSig(s)
	got, again := impl.SigOk(given), impl.SigOk(given)
	if want := modelSigOk(s); got != want || again != want {
		t.Errorf("SigOk of %s = %v, and %v the next time, want %v", tellSig(s), got, again, want)
	}
	if !stays() {
		t.Errorf("SigOk of %s writes into its argument", tellSig(s))
	}
	return got
}

func expectCheckSig(t *testing.T, public, m string, s impl.Sig) bool {
	t.Helper()
	given, stays := guardedSig(s)
	givenPublic, givenText := strings.Clone(public), strings.Clone(m)
	got, again := impl.CheckSig(givenPublic, givenText, given), impl.CheckSig(givenPublic, givenText, given)
	if want := modelCheckSig(public, m, s); got != want || again != want {
		t.Errorf("CheckSig by %x, of %s and %s = %v, and %v the next time, want %v", public, tellSeed(m), tellSig(s), got, again, want)
	}
	if !stays() || givenPublic != public || givenText != m {
		t.Errorf("CheckSig by %x, of %s and %s writes into an argument", public, tellSeed(m), tellSig(s))
	}
	return got
}

func expectSigText(t *testing.T, s impl.Sig) (string, bool) {
	t.Helper()
	given, stays := guardedSig(s)
	got, ok := impl.SigText(given)
	again, right := impl.SigText(given)
	if want, there := modelSigText(s); got != want || again != want || ok != there || right != there {
		t.Errorf("SigText of %s = %x, %v, and %x, %v the next time, want %x, %v", tellSig(s), got, ok, again, right, want, there)
	}
	if !stays() {
		t.Errorf("SigText of %s writes into its argument", tellSig(s))
	}
	expectOwnTexts(t, "SigText", []string{got, again}, textsOfSig(given)...)
	return got, ok
}

func expectReadSig(t *testing.T, text string) (impl.Sig, bool) {
	t.Helper()
	given := strings.Clone(text)
	got, ok := impl.ReadSig(given)
	again, right := impl.ReadSig(given)
	if want, there := modelReadSig(text); !sameSig(got, want) || !sameSig(again, want) || ok != there || right != there {
		t.Errorf("ReadSig of %x = %s, %v, and %s, %v the next time, want %s, %v", text, tellSig(got), ok, tellSig(again), right, tellSig(want), there)
	}
	if given != text {
		t.Errorf("ReadSig of %x writes into its argument", text)
	}
	expectOwnSigs(t, "ReadSig", got, again, given)
	return got, ok
}

// expectComesBack asks that a right signature is read from its text, and that what is read has that text.
func expectComesBack(t *testing.T, s impl.Sig) string {
	t.Helper()
	text, ok := expectSigText(t, s)
	read, right := expectReadSig(t, text)
	back, good := expectSigText(t, read)
	if !ok || !right || !good || !sameSig(read, s) || back != text || len(text) != sigSize || text[0] != byte(s.Leaf) {
		t.Errorf("%s has the text %x, of which %s is read, which has %x", tellSig(s), text, tellSig(read), back)
	}
	return text
}

// expectPromise16 holds the promise, with each of the functions held against its model; the public text is handed in, since it is that of all signatures of a seed.
func expectPromise16(t *testing.T, seed, public string, leaf int, m string) impl.Sig {
	t.Helper()
	s, ok := expectSignAt(t, seed, leaf, m)
	if !ok || s.Leaf != leaf || len(s.Once) != chainCount || len(s.Path) != treeHeight || !expectSigOk(t, s) {
		t.Fatalf("SignAt of %s, leaf %d and %s = %s, %v", tellSeed(seed), leaf, tellSeed(m), tellSig(s), ok)
	}
	if !expectCheckSig(t, public, m, s) {
		t.Errorf("%s is not right for %s by %x", tellSig(s), tellSeed(m), public)
	}
	expectComesBack(t, s)
	return s
}

func expectNotRight(t *testing.T, what, public, m string, s impl.Sig) {
	t.Helper()
	if expectCheckSig(t, public, m, s) {
		t.Errorf("%s: %s is right for %s by %x", what, tellSig(s), tellSeed(m), public)
	}
}

// expectWrongSig asks of a signature that is not right what is refused of it, also by the root that it would make.
func expectWrongSig(t *testing.T, what, public, m string, s impl.Sig) {
	t.Helper()
	if expectSigOk(t, s) {
		t.Errorf("%s: SigOk says that %s is right", what, tellSig(s))
	}
	if text, ok := expectSigText(t, s); text != "" || ok {
		t.Errorf("%s: SigText of %s = %x, %v, want none", what, tellSig(s), text, ok)
	}
	root := impl.RootBy(impl.OnceFound(s.Once, s.Leaf, m), s.Leaf, s.Path)
	for _, by := range []string{public, "", root} {
		expectNotRight(t, what, by, m, s)
	}
}

func expectNotRead(t *testing.T, what, text string) {
	t.Helper()
	if s, ok := expectReadSig(t, text); !isZeroSig(s) || ok {
		t.Errorf("%s: of %x %s is read, %v", what, text, tellSig(s), ok)
	}
}

func signedAt(t *testing.T, seed string, leaf int, m string) impl.Sig {
	t.Helper()
	s, ok := impl.SignAt(seed, leaf, m)
	if !ok {
		t.Fatalf("SignAt of %s and leaf %d is refused", tellSeed(seed), leaf)
	}
	return s
}

func sigTextOf(t *testing.T, s impl.Sig) string {
	t.Helper()
	text, ok := impl.SigText(s)
	if !ok {
		t.Fatalf("SigText of %s is refused", tellSig(s))
	}
	return text
}

func drawSig(draw *rand.Rand) impl.Sig {
	s := impl.Sig{Leaf: draw.IntN(treeLeaves)}
	for range chainCount {
		s.Once = append(s.Once, drawBytes(draw, shortSize))
	}
	for range treeHeight {
		s.Path = append(s.Path, drawBytes(draw, shortSize))
	}
	return s
}

// rightSigs are right, though most of them sign nothing.
func rightSigs() []impl.Sig {
	var list []impl.Sig
	for leaf := range treeLeaves {
		for _, text := range []string{"\x00\x00\x00\x00", "\xff\xff\xff\xff", "abcd", "\x03\x00\x01\x02"} {
			list = append(list, impl.Sig{Leaf: leaf, Once: slices.Repeat([]string{text}, chainCount), Path: slices.Repeat([]string{text}, treeHeight)})
		}
		unlike := manyTexts(chainCount + treeHeight)
		list = append(list, impl.Sig{Leaf: leaf, Once: unlike[:chainCount], Path: unlike[chainCount:]})
	}
	return list
}

func withLeaf(s impl.Sig, leaf int) impl.Sig {
	s.Leaf = leaf
	return s
}

func withOnce(s impl.Sig, once ...string) impl.Sig {
	s.Once = once
	return s
}

func withPath(s impl.Sig, path ...string) impl.Sig {
	s.Path = path
	return s
}

func withText(list []string, at int, text string) []string {
	changed := slices.Clone(list)
	changed[at] = text
	return changed
}

// withTexts has the texts of both lists one behind the other, the first so many of them in Once.
func withTexts(s impl.Sig, once int) impl.Sig {
	all := textsOfSig(s)
	return impl.Sig{Leaf: s.Leaf, Once: all[:once], Path: all[once:]}
}

// wrongTexts are those of other lengths than Short; text has Short bytes.
func wrongTexts(text string) []string {
	return []string{"", text[:1], text[:shortSize-2], text[:shortSize-1], text[1:], text + "\x00", "\x00" + text, text + text, text + textOf(28), textOf(1000)}
}

// wrongLists have not as many texts as the list, all of them of Short bytes.
func wrongLists(list []string) [][]string {
	lists := [][]string{nil, {}, list[:len(list)-1], list[1:], append(slices.Clone(list), "abcd"), append([]string{"abcd"}, list...), slices.Concat(list, list), manyTexts(100)}
	for size := range len(list) {
		lists = append(lists, list[:size])
	}
	return lists
}

type namedSig struct {
	what string
	sig  impl.Sig
}

// wrongSigs are made of a right one.
func wrongSigs(s impl.Sig) []namedSig {
	list := []namedSig{{"nothing at all", impl.Sig{}}, {"a leaf alone", impl.Sig{Leaf: s.Leaf}}}
	for _, leaf := range noLeaves() {
		list = append(list, namedSig{fmt.Sprint("leaf ", leaf), withLeaf(s, leaf)})
	}
	for _, wrong := range wrongLists(s.Once) {
		list = append(list, namedSig{fmt.Sprint(len(wrong), " texts in Once"), withOnce(s, wrong...)})
	}
	for _, wrong := range wrongLists(s.Path) {
		list = append(list, namedSig{fmt.Sprint(len(wrong), " texts in Path"), withPath(s, wrong...)})
	}
	for chain, text := range s.Once {
		for _, wrong := range wrongTexts(text) {
			list = append(list, namedSig{fmt.Sprintf("text %d of Once with %d bytes", chain, len(wrong)), withOnce(s, withText(s.Once, chain, wrong)...)})
		}
	}
	for place, text := range s.Path {
		for _, wrong := range wrongTexts(text) {
			list = append(list, namedSig{fmt.Sprintf("text %d of Path with %d bytes", place, len(wrong)), withPath(s, withText(s.Path, place, wrong)...)})
		}
	}
	return append(list, wronglyCut(s)...)
}

// wronglyCut have the bytes of a right signature, all of them and in order, but not in texts as they should be.
func wronglyCut(s impl.Sig) []namedSig {
	list := []namedSig{{"Once and Path in each other's place", impl.Sig{Leaf: s.Leaf, Once: s.Path, Path: s.Once}}}
	for once := range chainCount + treeHeight + 1 {
		if once != chainCount {
			list = append(list, namedSig{fmt.Sprint("the texts with ", once, " of them in Once"), withTexts(s, once)})
		}
	}
	all := textsOfSig(s)
	for at := range len(all) - 1 {
		for _, cut := range []int{0, 3, 5, 8} {
			both := all[at] + all[at+1]
			moved := withText(withText(all, at, both[:cut]), at+1, both[cut:])
			list = append(list, namedSig{fmt.Sprintf("the texts %d and %d cut at %d", at, at+1, cut), impl.Sig{Leaf: s.Leaf, Once: moved[:chainCount], Path: moved[chainCount:]}})
		}
	}
	return list
}

// What these tests know comes from another program, which was written down from the chapter by itself.
func TestKnownTreeKeys(t *testing.T) {
	for _, c := range []struct {
		seed         string
		leaf         int
		m            string
		public, text string
	}{
		{"", 0, "", "84dde7b7", "00a7be9f96ff54983b8fe0f61c40b84d9373cf56e22a42d215868e4bbe3d14f769cb2964a4b6696733bd3588fa3f48fbb4"},
		{"seed", 2, "m", "4ec872bd", "02a1bffb6819bab2966f5a867a3d87d3f20fa9465dd5e92c8d0a67b887706fab4c8fdd7d1f499ce20d7e4c92b218f80533"},
		{"seed", 1, "m", "4ec872bd", "01f56fb97f83ccb35ff18227f10a7eca4b951e016948ac469a9b056e53a62cd61b1393ad2ef4057939ff47eab113a0552c"},
		{strings.Repeat("\x00", 32), 3, "abc", "10da0bed", "03d0c642d13a364116036cae3efff0c03d48812c65206509dd3f3da204a68b04e8825786ee2ebc424dcee5afa0cb35e841"},
		{strings.Repeat("a", 100), 0, strings.Repeat("\xff", 70), "39e9a063", "006ea756180fd4d4e181265cbb2c4c3f1c48458e232bc069fed7d120a84da8302bb03bfdf22120631c42c2253c959c39f4"},
		{"\xff", 1, textOfZeros, "b4f0f2b8", "0137c515e80078ce71edf1f65f85e52670d04dd8663b5d033d2f8fa82060979aae1022316340c6233d68b2bb7195398297"},
		{"\xff", 2, textOfFifteens, "b4f0f2b8", "0206029eeb0dd3331a52c1e3320afb25773b1eb2d9f885d97fc297c2caa2ce12c87eb446baf393f726c112705fc36e3aa5"},
	} {
		public, want := bytesOf(t, c.public), bytesOf(t, c.text)
		s := signedAt(t, c.seed, c.leaf, c.m)
		if got := impl.PublicOf(c.seed); got != public {
			t.Errorf("PublicOf of %s = %x, want %s", tellSeed(c.seed), got, c.public)
		}
		if got := sigTextOf(t, s); got != want || s.Leaf != c.leaf || s.Once[0] != want[1:5] || s.Path[0] != want[41:45] || s.Path[1] != want[45:] {
			t.Errorf("SignAt of %s, leaf %d and %s = %s, want the text %s", tellSeed(c.seed), c.leaf, tellSeed(c.m), tellSig(s), c.text)
		}
		read, ok := impl.ReadSig(want)
		if !ok || !sameSig(read, s) || !impl.CheckSig(public, c.m, read) || impl.CheckSig(public, c.m+"!", read) {
			t.Errorf("of %s is read %s, %v", c.text, tellSig(read), ok)
		}
	}
}

func TestPublicTextsOfSeeds(t *testing.T) {
	met := map[string]string{}
	seeds := slices.Concat(chainTexts(), greatTexts())
	for n := range 100 {
		seeds = append(seeds, fmt.Sprint("seed ", n))
	}
	for _, seed := range seeds {
		public := expectPublicOf(t, seed)
		if other, there := met[public]; there {
			t.Errorf("%s and %s have one public text", tellSeed(seed), tellSeed(other))
		}
		met[public] = seed
		var leaves []string
		for leaf := range impl.Leaves {
			leaves = append(leaves, impl.OncePublic(impl.OnceKey(seed, leaf), leaf))
		}
		if root := impl.RootOf(leaves); root != public {
			t.Errorf("PublicOf of %s = %x, where the root of its leaves is %x", tellSeed(seed), public, root)
		}
	}
}

// Promise 16.
func TestSignaturesOfLeavesAreRight(t *testing.T) {
	texts := chainTexts()
	for i, seed := range texts {
		public := expectPublicOf(t, seed)
		for leaf := range treeLeaves {
			expectPromise16(t, seed, public, leaf, "")
			for j := range 4 {
				expectPromise16(t, seed, public, leaf, texts[(i+leaf+7*j)%len(texts)])
			}
		}
	}
	for _, great := range greatTexts() {
		for leaf := range treeLeaves {
			expectPromise16(t, great, impl.PublicOf(great), leaf, great)
			expectPromise16(t, "", impl.PublicOf(""), leaf, great)
		}
	}
}

func TestSignaturesOfManyTextsAreRight(t *testing.T) {
	for _, seed := range []string{"", "many texts"} {
		public := expectPublicOf(t, seed)
		for i, m := range chainTexts() {
			for leaf := range treeLeaves {
				expectPromise16(t, seed, public, leaf, m)
			}
			expectPromise16(t, seed, public, i%treeLeaves, fmt.Sprint("text ", i))
		}
	}
}

func TestSignaturesOfTextsOfEachSumAreRight(t *testing.T) {
	public := expectPublicOf(t, "each sum")
	for sum, m := range textsOfSums(t) {
		expectPromise16(t, "each sum", public, sum%treeLeaves, m)
	}
}

func TestDrawnSignaturesOfLeavesAreRight(t *testing.T) {
	draw := rand.New(rand.NewPCG(16, 1))
	for range 150 {
		seed := drawText(draw)
		expectPromise16(t, seed, expectPublicOf(t, seed), draw.IntN(treeLeaves), drawText(draw))
	}
}

func TestSignaturesHaveTheirLeafAndItsPath(t *testing.T) {
	for _, seed := range []string{"", "seed", textOf(32), textOf(100)} {
		var leaves []string
		for leaf := range treeLeaves {
			leaves = append(leaves, impl.OncePublic(impl.OnceKey(seed, leaf), leaf))
		}
		for leaf, public := range leaves {
			for _, m := range []string{"", "m", textOfZeros, textOfFifteens} {
				s := signedAt(t, seed, leaf, m)
				if s.Leaf != leaf || !slices.Equal(s.Once, impl.OnceSign(impl.OnceKey(seed, leaf), leaf, m)) || !slices.Equal(s.Path, impl.PathOf(leaves, leaf)) || impl.OnceFound(s.Once, s.Leaf, m) != public {
					t.Errorf("SignAt of %s, leaf %d and %s = %s", tellSeed(seed), leaf, tellSeed(m), tellSig(s))
				}
			}
		}
	}
}

func TestLeavesThatAreNone(t *testing.T) {
	for _, leaf := range noLeaves() {
		for _, seed := range []string{"", "seed", textOf(100)} {
			for _, m := range []string{"", "m", textOf(70)} {
				if s, ok := expectSignAt(t, seed, leaf, m); !isZeroSig(s) || ok {
					t.Errorf("SignAt of %s, leaf %d and %s = %s, %v, want none", tellSeed(seed), leaf, tellSeed(m), tellSig(s), ok)
				}
			}
		}
	}
	for leaf := -600; leaf <= 600; leaf++ {
		if _, ok := impl.SignAt("seed", leaf, "m"); ok != (leaf >= 0 && leaf < treeLeaves) {
			t.Errorf("whether leaf %d signs: %v", leaf, ok)
		}
	}
}

func TestSignaturesAreNotRightByOtherPublicTexts(t *testing.T) {
	seeds := []string{"", "s", "seed", "seee", "another seed", textOf(32), textOf(33)}
	for _, seed := range seeds {
		public := impl.PublicOf(seed)
		for leaf := range treeLeaves {
			s := expectPromise16(t, seed, public, leaf, "m")
			for _, other := range seeds {
				if right := expectCheckSig(t, impl.PublicOf(other), "m", s); right != (other == seed) {
					t.Errorf("a signature by %s is right by the public text of %s: %v", tellSeed(seed), tellSeed(other), right)
				}
			}
			for _, other := range append(otherSizes(public), "abcd", "\x00\x00\x00\x00", s.Once[0], s.Path[0], s.Path[1], impl.OnceFound(s.Once, leaf, "m"), textOf(1000)) {
				expectNotRight(t, "another public text", other, "m", s)
			}
			for bit := range 8 * shortSize {
				expectNotRight(t, fmt.Sprintf("bit %d of the public text turned", bit), turnedByte(public, bit/8, 1<<(bit%8)), "m", s)
			}
		}
	}
}

func TestSignaturesOfLeavesAreNotRightForOtherTexts(t *testing.T) {
	texts := slices.Concat(chainTexts(), []string{textOfZeros, textOfFifteens, "text", "texT", "text ", " text", "txet"})
	public := impl.PublicOf("other texts")
	for i, m := range texts {
		s := expectPromise16(t, "other texts", public, i%treeLeaves, m)
		for _, other := range texts {
			if right := expectCheckSig(t, public, other, s); right != (other == m) {
				t.Errorf("a signature of %s is right for %s: %v", tellSeed(m), tellSeed(other), right)
			}
		}
	}
}

// Of a text just its Chop is signed, as the chapters have it; texts with one Chop were looked for once, and are written down.
func TestTextsWithOneChopAreSignedAlike(t *testing.T) {
	public := impl.PublicOf("one chop")
	for _, two := range [][2]string{{"69235", "95303"}, {"88277", "102584"}} {
		for leaf := range treeLeaves {
			first, other := expectPromise16(t, "one chop", public, leaf, two[0]), expectPromise16(t, "one chop", public, leaf, two[1])
			if impl.Chop(two[0]) != impl.Chop(two[1]) || !sameSig(first, other) || !expectCheckSig(t, public, two[1], first) {
				t.Errorf("%s and %s are not signed alike", two[0], two[1])
			}
		}
	}
}

func TestSignaturesAreNotRightWithAnotherLeaf(t *testing.T) {
	for _, seed := range []string{"", "seed", textOf(32)} {
		public := impl.PublicOf(seed)
		for _, m := range []string{"", "m", "abc", textOfZeros, textOfFifteens} {
			for leaf := range treeLeaves {
				s := expectPromise16(t, seed, public, leaf, m)
				for other := range treeLeaves {
					if other != leaf {
						its := signedAt(t, seed, other, m)
						expectNotRight(t, "another leaf", public, m, withLeaf(s, other))
						expectNotRight(t, "another leaf's Once", public, m, withOnce(s, its.Once...))
						expectNotRight(t, "another leaf's Path", public, m, withPath(s, its.Path...))
					}
				}
				for _, other := range noLeaves() {
					expectNotRight(t, "no leaf", public, m, withLeaf(s, other))
				}
			}
		}
	}
}

func TestSignaturesOfLeavesWithOneByteTurned(t *testing.T) {
	public := impl.PublicOf("turned")
	for leaf, m := range []string{"", "m", textOfZeros, textOfFifteens} {
		s := expectPromise16(t, "turned", public, leaf, m)
		for bit := range 8 * shortSize {
			at, mask := bit/8, byte(1)<<(bit%8)
			for chain, text := range s.Once {
				expectNotRight(t, fmt.Sprintf("bit %d of text %d of Once turned", bit, chain), public, m, withOnce(s, withText(s.Once, chain, turnedByte(text, at, mask))...))
			}
			for place, text := range s.Path {
				expectNotRight(t, fmt.Sprintf("bit %d of text %d of Path turned", bit, place), public, m, withPath(s, withText(s.Path, place, turnedByte(text, at, mask))...))
			}
		}
	}
}

func TestSignaturesWithTextsInEachOthersPlace(t *testing.T) {
	public := impl.PublicOf("places")
	for leaf := range treeLeaves {
		s := expectPromise16(t, "places", public, leaf, "m")
		for chain, text := range s.Once {
			for other := range chain {
				changed := withText(withText(s.Once, chain, s.Once[other]), other, text)
				expectNotRight(t, fmt.Sprintf("the chains %d and %d in each other's place", chain, other), public, "m", withOnce(s, changed...))
			}
		}
		expectNotRight(t, "the path changed over", public, "m", withPath(s, s.Path[1], s.Path[0]))
	}
}

// A right signature is asked just for the root that it makes, whoever made it.
func TestRightSignaturesOfAnyTexts(t *testing.T) {
	list := rightSigs()
	draw := rand.New(rand.NewPCG(16, 2))
	for range 200 {
		list = append(list, drawSig(draw))
	}
	for i, s := range list {
		if !expectSigOk(t, s) {
			t.Errorf("SigOk says that %s is not right", tellSig(s))
		}
		m := fmt.Sprint("text ", i)
		root := impl.RootBy(impl.OnceFound(s.Once, s.Leaf, m), s.Leaf, s.Path)
		if !expectCheckSig(t, root, m, s) {
			t.Errorf("%s is not right by %x, the root that it makes", tellSig(s), root)
		}
		expectNotRight(t, "a public text of another seed", impl.PublicOf("seed"), m, s)
		expectNotRight(t, "no public text", "", m, s)
		expectComesBack(t, s)
	}
}

func TestSigOkAtItsEdges(t *testing.T) {
	s := signedAt(t, "edges", 0, "m")
	for leaf := -300; leaf <= 300; leaf++ {
		if ok := expectSigOk(t, withLeaf(s, leaf)); ok != (leaf >= 0 && leaf <= 3) {
			t.Errorf("SigOk with leaf %d = %v", leaf, ok)
		}
	}
	texts := manyTexts(30)
	for size := range len(texts) {
		if ok := expectSigOk(t, withOnce(s, texts[:size]...)); ok != (size == 10) {
			t.Errorf("SigOk with %d texts in Once = %v", size, ok)
		}
		if ok := expectSigOk(t, withPath(s, texts[:size]...)); ok != (size == 2) {
			t.Errorf("SigOk with %d texts in Path = %v", size, ok)
		}
	}
	for size := range 300 {
		for chain := range s.Once {
			if ok := expectSigOk(t, withOnce(s, withText(s.Once, chain, textOf(size))...)); ok != (size == 4) {
				t.Errorf("SigOk with a text of %d bytes at %d of Once = %v", size, chain, ok)
			}
		}
		for place := range s.Path {
			if ok := expectSigOk(t, withPath(s, withText(s.Path, place, textOf(size))...)); ok != (size == 4) {
				t.Errorf("SigOk with a text of %d bytes at %d of Path = %v", size, place, ok)
			}
		}
	}
}

func TestSignaturesThatAreNotRight(t *testing.T) {
	public := impl.PublicOf("not right")
	for leaf, m := range []string{"", "m", textOfZeros, textOfFifteens} {
		for _, wrong := range wrongSigs(signedAt(t, "not right", leaf, m)) {
			expectWrongSig(t, wrong.what, public, m, wrong.sig)
		}
	}
	for _, s := range rightSigs() {
		for _, wrong := range wrongSigs(s) {
			expectWrongSig(t, wrong.what, public, "m", wrong.sig)
		}
	}
}

// The other tests hand in lists with spare room behind them, which are never nil.
func TestSignaturesWithoutLists(t *testing.T) {
	public := impl.PublicOf("no lists")
	s := signedAt(t, "no lists", 0, "m")
	for _, none := range [][]string{nil, {}} {
		for _, wrong := range []impl.Sig{{Once: none, Path: s.Path}, {Once: s.Once, Path: none}, {Once: none, Path: none}, {Leaf: -1, Once: none, Path: none}, {Leaf: 4, Once: none, Path: none}} {
			text, ok := impl.SigText(wrong)
			if impl.SigOk(wrong) || impl.CheckSig(public, "m", wrong) || impl.CheckSig("", "m", wrong) || text != "" || ok {
				t.Errorf("%s is right, or has the text %x, %v", tellSig(wrong), text, ok)
			}
		}
	}
}

// Bytes are counted, not letters.
func TestSignaturesOfTextsOfLetters(t *testing.T) {
	s := signedAt(t, "letters", 1, "m")
	for text, right := range map[string]bool{"\xc3\xa4\xc3\xb6": true, "\xf0\x9f\x94\x91": true, "\xe2\x82\xac!": true, "\xc3\xa4\xc3\xb6\xc3\xbc\xc3\x9f": false, "\xe2\x82\xac": false, "\xff\xfe\xfd\xfc": true} {
		for _, one := range []impl.Sig{withOnce(s, withText(s.Once, 4, text)...), withPath(s, withText(s.Path, 1, text)...)} {
			if expectSigOk(t, one) != right {
				t.Errorf("SigOk of %s, want %v", tellSig(one), right)
			}
			if right {
				expectComesBack(t, one)
			} else {
				expectWrongSig(t, "a text of letters", impl.PublicOf("letters"), "m", one)
			}
		}
	}
}

func TestTextsOfUnlikeSignaturesAreUnlike(t *testing.T) {
	met := map[string]impl.Sig{}
	list := rightSigs()
	for leaf := range treeLeaves {
		for _, m := range chainTexts() {
			list = append(list, signedAt(t, "unlike", leaf, m))
		}
	}
	for _, s := range list {
		text := expectComesBack(t, s)
		if other, there := met[text]; there {
			t.Errorf("%s and %s have one text", tellSig(s), tellSig(other))
		}
		met[text] = s
	}
}

func TestTextsThatAreCut(t *testing.T) {
	for leaf, m := range []string{"", "m", textOfZeros, textOfFifteens} {
		text := expectComesBack(t, signedAt(t, "cut", leaf, m))
		for size := range len(text) {
			expectNotRead(t, fmt.Sprint("cut at ", size), text[:size])
			expectNotRead(t, fmt.Sprint("cut off its first ", size+1), text[size+1:])
			expectNotRead(t, fmt.Sprint("without its byte ", size), text[:size]+text[size+1:])
		}
		for b := range 256 {
			expectNotRead(t, fmt.Sprint("with a byte ", b, " behind it"), text+modelByte(b))
			expectNotRead(t, fmt.Sprint("with a byte ", b, " ahead of it"), modelByte(b)+text)
		}
		for _, more := range []string{"abc", "abcd", "abcdefgh", text, textOf(1000)} {
			expectNotRead(t, fmt.Sprintf("with %d bytes behind it", len(more)), text+more)
		}
	}
}

func TestTextsByTheirFirstByte(t *testing.T) {
	for _, behind := range []string{sigTextOf(t, signedAt(t, "first byte", 3, "m"))[1:], strings.Repeat("\x00", sigSize-1), strings.Repeat("\xff", sigSize-1), textOf(sigSize - 1)} {
		for b := range 256 {
			text := modelByte(b) + behind
			if b >= treeLeaves {
				expectNotRead(t, fmt.Sprint("first byte ", b), text)
				continue
			}
			s, ok := expectReadSig(t, text)
			back, right := expectSigText(t, s)
			if !ok || !right || s.Leaf != b || !expectSigOk(t, s) || back != text || strings.Join(textsOfSig(s), "") != behind {
				t.Errorf("of %x %s is read, %v", text, tellSig(s), ok)
			}
		}
	}
}

func TestTextsThatAreNoSignatures(t *testing.T) {
	expectNotRead(t, "the empty text", "")
	for size := range 300 {
		for _, text := range []string{strings.Repeat("\x00", size), strings.Repeat("\x03", size), textOf(size), strings.Repeat("\xff", size)} {
			s, ok := expectReadSig(t, text)
			if there := size == sigSize && text[0] < treeLeaves; ok != there || there == isZeroSig(s) {
				t.Errorf("of %d bytes %x %s is read, %v", size, text, tellSig(s), ok)
			}
		}
	}
	for _, great := range greatTexts() {
		expectNotRead(t, "a great text", great)
	}
	s := signedAt(t, "hex", 0, "m")
	figures, _ := impl.Hex(sigTextOf(t, s))
	expectNotRead(t, "in figures", figures)
}

func TestDrawnTextsOfSignatures(t *testing.T) {
	draw := rand.New(rand.NewPCG(16, 3))
	for range 2000 {
		text := drawBytes(draw, sigSize+draw.IntN(3)-1)
		if draw.IntN(2) == 0 {
			text = modelByte(draw.IntN(6)) + text[1:]
		}
		s, ok := expectReadSig(t, text)
		if !ok {
			continue
		}
		if back := expectComesBack(t, s); back != text {
			t.Errorf("of %x %s is read, which has %x", text, tellSig(s), back)
		}
	}
}

// Each byte that is turned in a text is read as another signature, which is not right, or as none.
func TestTextsWithOneByteTurned(t *testing.T) {
	public := impl.PublicOf("turned text")
	for leaf := range treeLeaves {
		s := signedAt(t, "turned text", leaf, "m")
		text := sigTextOf(t, s)
		for bit := range 8 * len(text) {
			read, ok := expectReadSig(t, turnedByte(text, bit/8, 1<<(bit%8)))
			if sameSig(read, s) || expectCheckSig(t, public, "m", read) {
				t.Errorf("with bit %d turned, %s is read, %v", bit, tellSig(read), ok)
			}
		}
	}
}

func TestTreeKeysShareNoMemory(t *testing.T) {
	public := impl.PublicOf("own memory")
	for _, m := range []string{"m", textOfZeros, textOfFifteens} {
		first, again := signedAt(t, "own memory", 1, m), signedAt(t, "own memory", 1, m)
		want, text := cloneSig(again), sigTextOf(t, again)
		// What is written into one answer is not seen in another, nor what is put behind one list in the other.
		first.Once = append(first.Once, "more")
		if !slices.Equal(first.Path, want.Path) {
			t.Error("what is put behind Once is seen in Path")
		}
		clear(first.Once)
		clear(first.Path)
		third := signedAt(t, "own memory", 1, m)
		if !sameSig(again, want) || !sameSig(third, want) || !impl.CheckSig(public, m, again) {
			t.Errorf("what is written into %s is seen in another", tellSig(want))
		}
		read, _ := impl.ReadSig(text)
		read.Once = append(read.Once, "more")
		if !slices.Equal(read.Path, want.Path) {
			t.Error("what is put behind a read Once is seen in Path")
		}
		clear(read.Once)
		clear(read.Path)
		if other, ok := impl.ReadSig(text); !ok || !sameSig(other, want) || sigTextOf(t, again) != text {
			t.Errorf("what is written into what was read is seen in %s", tellSig(other))
		}
		clear(again.Once)
		clear(again.Path)
		if _, ok := impl.SigText(again); ok || text != sigTextOf(t, third) {
			t.Error("a text changes with its signature")
		}
	}
}

// The lists of a signature may be pieces of one list, and its texts pieces of one text.
func TestSignaturesWhoseListsLieTogether(t *testing.T) {
	s := signedAt(t, "together", 2, "m")
	public := impl.PublicOf("together")
	text := sigTextOf(t, s)
	var all []string
	for at := 1; at < len(text); at += shortSize {
		all = append(all, text[at:at+shortSize])
	}
	was := slices.Clone(all)
	together := impl.Sig{Leaf: 2, Once: all[:chainCount], Path: all[chainCount:]}
	own, ok := impl.SigText(together)
	if !ok || own != text || sharesMemory(own, text) || !impl.SigOk(together) || !impl.CheckSig(public, "m", together) || !slices.Equal(all, was) {
		t.Errorf("%s has the text %x, %v", tellSig(together), own, ok)
	}
	overlapping := impl.Sig{Leaf: 1, Once: all[1 : chainCount+1], Path: all[chainCount-1 : chainCount+1]}
	expectComesBack(t, overlapping)
	if got, ok := impl.SigText(overlapping); !ok || got != "\x01"+strings.Join(all[1:11], "")+all[9]+all[10] || !slices.Equal(all, was) {
		t.Errorf("%s has the text %x, %v", tellSig(overlapping), got, ok)
	}
}

func TestTreeKeysAmongMany(t *testing.T) {
	var callers sync.WaitGroup
	public := modelPublicOf("among many")
	for caller := range 8 {
		callers.Go(func() {
			for n := range 8 {
				leaf, m := (caller+n)%treeLeaves, fmt.Sprint(caller, " ", n)
				s, ok := impl.SignAt("among many", leaf, m)
				want, _ := modelSignAt("among many", leaf, m)
				text, right := impl.SigText(s)
				read, good := impl.ReadSig(text)
				if !ok || !right || !good || !sameSig(s, want) || !sameSig(read, want) || !impl.CheckSig(public, m, read) || impl.PublicOf("among many") != public {
					t.Error("a signature of a leaf among many is another one")
				}
				if _, ok := impl.SignAt("among many", math.MinInt+n, m); ok {
					t.Error("no leaf signs among many")
				}
			}
		})
	}
	callers.Wait()
}
