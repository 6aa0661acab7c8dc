package tests

import (
	"fmt"
	"math"
	"math/rand/v2"
	"slices"
	"strings"
	"sync"
	"testing"

	"loop.example/g00186/impl"
)

const (
	poolTakes = 20
	mostTaken = 200
)

// modelMix is a pool mixed by the chapter's words; its Takes stay.
func modelMix(p impl.Pool, text string) impl.Pool {
	p.Key = macByLibrary(p.Key, p.Val+"\x00"+text)
	p.Val = macByLibrary(p.Key, p.Val)
	if text != "" {
		p.Key = macByLibrary(p.Key, p.Val+"\x01"+text)
		p.Val = macByLibrary(p.Key, p.Val)
	}
	return p
}

func modelPoolNew(seed string) impl.Pool {
	return modelMix(impl.Pool{Key: strings.Repeat("\x00", macSize), Val: strings.Repeat("\x01", macSize)}, seed)
}

func modelPoolOk(p impl.Pool) bool {
	return len(p.Key) == macSize && len(p.Val) == macSize && p.Takes >= 0 && p.Takes <= poolTakes
}

func modelPoolTake(p impl.Pool, n int) (impl.Pool, string, bool) {
	if !modelPoolOk(p) || n < 0 || n > mostTaken || p.Takes >= poolTakes {
		return impl.Pool{}, "", false
	}
	var text string
	for len(text) < n {
		p.Val = macByLibrary(p.Key, p.Val)
		text += p.Val
	}
	p = modelMix(p, "")
	p.Takes++
	return p, text[:n], true
}

func modelPoolFeed(p impl.Pool, seed string) impl.Pool {
	if !modelPoolOk(p) {
		return p
	}
	p = modelMix(p, seed)
	p.Takes = 0
	return p
}

func tellPool(p impl.Pool) string {
	return fmt.Sprintf("{Key %d bytes %.20x, Val %d bytes %.20x, Takes %d}", len(p.Key), p.Key, len(p.Val), p.Val, p.Takes)
}

func expectOwnTexts(t *testing.T, what string, mine []string, given ...string) {
	t.Helper()
	for i, s := range mine {
		for _, other := range slices.Concat(given, mine[:i]) {
			if sharesMemory(s, other) {
				t.Errorf("%s: a text of the answer shares memory with an argument or with another text of it", what)
			}
		}
	}
}

func expectPoolNew(t *testing.T, seed string) impl.Pool {
	t.Helper()
	got := impl.PoolNew(seed)
	if want := modelPoolNew(seed); got != want {
		t.Errorf("PoolNew of %d bytes (%.20q) = %s, want %s", len(seed), seed, tellPool(got), tellPool(want))
	}
	if !impl.PoolOk(got) {
		t.Errorf("PoolNew of %d bytes (%.20q) = %s, which is not right", len(seed), seed, tellPool(got))
	}
	expectOwnTexts(t, "PoolNew", []string{got.Key, got.Val}, seed)
	return got
}

func expectPoolTake(t *testing.T, p impl.Pool, n int) (impl.Pool, string) {
	t.Helper()
	after, text, ok := impl.PoolTake(p, n)
	wantAfter, wantText, right := modelPoolTake(p, n)
	if after != wantAfter || text != wantText || ok != right {
		t.Errorf("PoolTake(%s, %d) = %s, %d bytes %.20x, %v, want %s, %d bytes %.20x, %v",
			tellPool(p), n, tellPool(after), len(text), text, ok, tellPool(wantAfter), len(wantText), wantText, right)
	}
	if ok && len(text) != n {
		t.Errorf("PoolTake(%s, %d) gives %d bytes", tellPool(p), n, len(text))
	}
	expectOwnTexts(t, "PoolTake", []string{after.Key, after.Val, text}, p.Key, p.Val)
	return after, text
}

func expectPoolRefused(t *testing.T, p impl.Pool, n int) {
	t.Helper()
	if after, text, ok := impl.PoolTake(p, n); after != (impl.Pool{}) || text != "" || ok {
		t.Errorf("PoolTake(%s, %d) = %s, %d bytes, %v, want the zero value, none, false", tellPool(p), n, tellPool(after), len(text), ok)
	}
}

func expectPoolFeed(t *testing.T, p impl.Pool, seed string) impl.Pool {
	t.Helper()
	got := impl.PoolFeed(p, seed)
	if want := modelPoolFeed(p, seed); got != want {
		t.Errorf("PoolFeed(%s, %d bytes %.20q) = %s, want %s", tellPool(p), len(seed), seed, tellPool(got), tellPool(want))
	}
	if impl.PoolOk(p) != impl.PoolOk(got) {
		t.Errorf("PoolFeed(%s, %d bytes %.20q) = %s: one of them is right and the other is not", tellPool(p), len(seed), seed, tellPool(got))
	}
	expectOwnTexts(t, "PoolFeed", []string{got.Key, got.Val}, p.Key, p.Val, seed)
	return got
}

func takeSizes() []int {
	return []int{0, 1, 2, 30, 31, 32, 33, 63, 64, 65, 95, 96, 97, 128, 160, 191, 192, 193, 199, 200}
}

func takeSizesThatAreRefused() []int {
	return []int{-1, -2, -31, -32, -200, math.MinInt64, math.MinInt64 + 1, 201, 202, 224, 256, 1000, 20000, 1 << 32, math.MaxInt64 - 31, math.MaxInt64}
}

func poolSeeds() []string {
	list := slices.Concat(textsAround(), textsOfBlocks(), []string{"s", "\x01", "\x00\x00", "\x01\x00", strings.Repeat("\x00", 32), strings.Repeat("\x01", 32)})
	return append(list, textOf(31), textOf(32), textOf(33), textOf(200), textOf(impl.MaxText+1), textOf(3*impl.MaxText))
}

// takeAll are the bytes of all the takes behind one another, and the pool that is left.
func takeAll(t *testing.T, p impl.Pool, sizes ...int) (impl.Pool, string) {
	t.Helper()
	var all string
	for i, n := range sizes {
		after, text, ok := impl.PoolTake(p, n)
		if !ok || len(text) != n {
			t.Errorf("take %d of %d = %d bytes, %v", i, n, len(text), ok)
		}
		p, all = after, all+text
	}
	return p, all
}

// The numbers that RFC 6979 draws for signatures with P-256 and SHA-256 are the first 32 bytes of such a pool.
func TestKnownTakes(t *testing.T) {
	key := "c9afa9d845ba75166b5c215767b1d6934e50c3db36e89b127b8a622b120f6721"
	for _, known := range []struct{ text, want string }{
		{"sample", "a6e3c57dd01abe90086538398355dd4c3b17aa873382b0f24d6129493d8aad60"},
		{"test", "d16b6ae827f17175e040871a1c7ec3500192c4c92677336ec2537acaee0008e0"},
	} {
		_, got, ok := impl.PoolTake(impl.PoolNew(bytesOf(t, key)+digestByLibrary(known.text)), 32)
		if want := bytesOf(t, known.want); got != want || !ok {
			t.Errorf("the number drawn for %q = %x, %v, want %x, true", known.text, got, ok, want)
		}
	}
}

func TestPoolsOfSeeds(t *testing.T) {
	for _, seed := range poolSeeds() {
		p := expectPoolNew(t, seed)
		p, _ = expectPoolTake(t, p, 40)
		expectPoolTake(t, p, 200)
	}
	for n := range 200 {
		expectPoolNew(t, textOf(n))
	}
}

func TestTheEmptySeedIsMixedOnce(t *testing.T) {
	key := macByLibrary(strings.Repeat("\x00", 32), strings.Repeat("\x01", 32)+"\x00")
	val := macByLibrary(key, strings.Repeat("\x01", 32))
	if got, want := impl.PoolNew(""), (impl.Pool{Key: key, Val: val}); got != want {
		t.Errorf("PoolNew of nothing = %s, want %s", tellPool(got), tellPool(want))
	}
}

func TestTakesOfSizes(t *testing.T) {
	for _, seed := range []string{"", "s", textOf(64), textOf(1000)} {
		for n := range mostTaken + 1 {
			expectPoolTake(t, impl.PoolNew(seed), n)
		}
	}
	for _, first := range takeSizes() {
		for _, next := range takeSizes() {
			p, _ := expectPoolTake(t, impl.PoolNew("s"), first)
			expectPoolTake(t, p, next)
		}
	}
}

// A take of n bytes begins a longer one of the same pool; and takes of as many steps leave the same pool.
func TestLongerTakesBeginWithShorterOnes(t *testing.T) {
	p := impl.PoolNew("s")
	whole, all, _ := impl.PoolTake(p, mostTaken)
	for n := range mostTaken + 1 {
		after, text, ok := impl.PoolTake(p, n)
		if !ok || len(text) != n || !strings.HasPrefix(all, text) {
			t.Errorf("a take of %d = %d bytes, %v, which do not begin that of %d", n, len(text), ok, mostTaken)
		}
		if sameSteps := n > 192; (after == whole) != sameSteps {
			t.Errorf("takes of %d and of %d leave the same pool: %v, want %v", n, mostTaken, !sameSteps, sameSteps)
		}
	}
}

func TestATakeOfNothing(t *testing.T) {
	p := impl.PoolNew("s")
	after, text, ok := impl.PoolTake(p, 0)
	want := modelMix(p, "")
	want.Takes = 1
	if after != want || text != "" || !ok {
		t.Errorf("a take of nothing = %s, %q, %v, want %s, none, true", tellPool(after), text, ok, tellPool(want))
	}
}

func TestTakeSizesThatAreRefused(t *testing.T) {
	for _, n := range takeSizesThatAreRefused() {
		for _, seed := range []string{"", "s", textOf(100)} {
			p := impl.PoolNew(seed)
			expectPoolRefused(t, p, n)
			p, _ = takeAll(t, p, 10, 20)
			expectPoolRefused(t, p, n)
			p.Takes = poolTakes
			expectPoolRefused(t, p, n)
		}
	}
}

// Promise 8: the same seeds and the same takes give the same bytes each time.
func TestTheSameSeedsGiveTheSame(t *testing.T) {
	for _, seed := range poolSeeds() {
		p, all := takeAll(t, impl.PoolNew(seed), 31, 0, 32, 200, 33)
		q, again := takeAll(t, impl.PoolNew(strings.Clone(seed)), 31, 0, 32, 200, 33)
		if all != again || p != q {
			t.Errorf("two pools of the seed %.20q give %.20x and %.20x", seed, all, again)
		}
		_, fed := takeAll(t, impl.PoolFeed(p, "more"), 64, 1)
		if _, same := takeAll(t, impl.PoolFeed(q, "more"), 64, 1); fed != same {
			t.Errorf("two pools of the seed %.20q that are fed alike give %.20x and %.20x", seed, fed, same)
		}
	}
}

func TestOtherSeedsGiveOthers(t *testing.T) {
	given := make(map[string]string)
	tell := func(what string, p impl.Pool) {
		_, text := takeAll(t, p, 32)
		if other, there := given[text]; there {
			t.Errorf("the pools of %s and of %s give the same", what, other)
		}
		given[text] = what
	}
	for i, seed := range []string{"", "\x00", "\x01", "\x00\x00", "\x00\x01", "s", "t", "st", "ts", "s\x00", "\x00s", textOf(32), textOf(33), textOf(64), textOf(1000)} {
		p := impl.PoolNew(seed)
		tell(fmt.Sprintf("the seed %.20q (%d)", seed, i), p)
		for _, more := range []string{"", "\x00", "s", "t"} {
			tell(fmt.Sprintf("the seed %.20q (%d) fed with %q", seed, i, more), impl.PoolFeed(p, more))
		}
		p, _ = takeAll(t, p, 32)
		tell(fmt.Sprintf("the seed %.20q (%d) that was taken from", seed, i), p)
	}
}

func TestEachBitOfASeedCounts(t *testing.T) {
	seed := []byte(textOf(40))
	_, plain := takeAll(t, impl.PoolNew(string(seed)), 32)
	for bit := range 8 * len(seed) {
		seed[bit/8] ^= 1 << (bit % 8)
		p := expectPoolNew(t, string(seed))
		if _, text := takeAll(t, p, 32); text == plain {
			t.Errorf("a seed of which bit %d is turned gives the same", bit)
		}
		seed[bit/8] ^= 1 << (bit % 8)
	}
}

// A take hangs on Key and Val alone: Takes is counted, and does not change what is given.
func TestTakesAreCounted(t *testing.T) {
	p := impl.PoolNew("s")
	_, want, _ := impl.PoolTake(p, 100)
	for takes := range poolTakes {
		p.Takes = takes
		after, text := expectPoolTake(t, p, 100)
		if text != want || after.Takes != takes+1 {
			t.Errorf("a pool that was taken from %d times gives %.20x and is left with Takes %d, want %.20x and %d", takes, text, after.Takes, want, takes+1)
		}
	}
}

func TestTakesUpToTheLimit(t *testing.T) {
	if impl.MaxTakes != poolTakes {
		t.Errorf("MaxTakes = %d, want %d", impl.MaxTakes, poolTakes)
	}
	for _, seed := range []string{"", "s", textOf(500)} {
		for _, n := range []int{0, 1, 32, 200} {
			p := impl.PoolNew(seed)
			for range poolTakes {
				p, _ = expectPoolTake(t, p, n)
			}
			if p.Takes != poolTakes || !impl.PoolOk(p) {
				t.Errorf("after %d takes of %d the pool is %s", poolTakes, n, tellPool(p))
			}
			for _, more := range takeSizes() {
				expectPoolRefused(t, p, more)
			}
			for _, more := range []string{"", "more"} {
				fed := expectPoolFeed(t, p, more)
				fed, _ = takeAll(t, fed, slices.Repeat([]int{n}, poolTakes)...)
				expectPoolRefused(t, fed, n)
			}
		}
	}
}

func TestTakesAroundTheLimit(t *testing.T) {
	for _, c := range []struct {
		takes       int
		right, give bool
	}{
		{0, true, true}, {1, true, true}, {18, true, true}, {19, true, true}, {20, true, false},
		{21, false, false}, {22, false, false}, {40, false, false}, {1 << 32, false, false}, {math.MaxInt64, false, false},
		{-1, false, false}, {-2, false, false}, {-20, false, false}, {math.MinInt64, false, false},
	} {
		p := impl.Pool{Key: textOf(macSize), Val: textOf(2 * macSize)[macSize:], Takes: c.takes}
		if got := impl.PoolOk(p); got != c.right {
			t.Errorf("PoolOk(%s) = %v, want %v", tellPool(p), got, c.right)
		}
		expectPoolFeed(t, p, "more")
		for _, n := range takeSizes() {
			expectPoolTake(t, p, n)
			if _, _, ok := impl.PoolTake(p, n); ok != c.give {
				t.Errorf("PoolTake(%s, %d) tells %v, want %v", tellPool(p), n, ok, c.give)
			}
		}
	}
}

func TestFeeding(t *testing.T) {
	for _, seed := range []string{"", "s", textOf(64)} {
		for _, more := range poolSeeds() {
			p, _ := takeAll(t, impl.PoolNew(seed), 33, 64)
			fed := expectPoolFeed(t, p, more)
			if fed.Takes != 0 {
				t.Errorf("a pool that is fed has Takes %d", fed.Takes)
			}
			fed, _ = expectPoolTake(t, fed, 50)
			expectPoolTake(t, expectPoolFeed(t, fed, more), 50)
		}
	}
}

// Fed with nothing, a pool that was not taken from is what a take of nothing leaves, but for its Takes.
func TestFeedingWithNothing(t *testing.T) {
	p := impl.PoolNew("s")
	after, _, _ := impl.PoolTake(p, 0)
	after.Takes = 0
	if fed := impl.PoolFeed(p, ""); fed != after || fed == p {
		t.Errorf("PoolFeed(%s, nothing) = %s, want %s", tellPool(p), tellPool(fed), tellPool(after))
	}
}

// In whatever parts a seed comes, each part is mixed of its own.
func TestFeedingInParts(t *testing.T) {
	whole := impl.PoolFeed(impl.PoolNew("s"), "abcd")
	for cut := range 5 {
		inParts := impl.PoolFeed(impl.PoolFeed(impl.PoolNew("s"), "abcd"[:cut]), "abcd"[cut:])
		if inParts == whole {
			t.Errorf("a pool that is fed in parts cut at %d is that fed with the whole", cut)
		}
	}
}

func wrongPools() []impl.Pool {
	list := []impl.Pool{{}, {Takes: 1}, {Takes: 20}, {Key: "k", Val: "v"}, {Takes: -1}}
	for _, size := range []int{0, 1, 16, 31, 33, 63, 64, 65, 200, 256 + 32, impl.MaxText} {
		for _, takes := range []int{0, 1, 19, 20} {
			list = append(list,
				impl.Pool{Key: textOf(size), Val: textOf(macSize), Takes: takes},
				impl.Pool{Key: textOf(macSize), Val: textOf(size), Takes: takes},
				impl.Pool{Key: textOf(size), Val: textOf(size), Takes: takes},
				impl.Pool{Key: textOf(size), Val: textOf(max(0, 64-size)), Takes: takes})
		}
	}
	for _, takes := range []int{-1, -20, 21, 1000, math.MinInt64, math.MaxInt64} {
		list = append(list, impl.Pool{Key: textOf(macSize), Val: textOf(macSize), Takes: takes})
	}
	return list
}

func TestWrongPools(t *testing.T) {
	for _, p := range wrongPools() {
		if impl.PoolOk(p) {
			t.Errorf("PoolOk(%s) = true", tellPool(p))
		}
		for _, seed := range []string{"", "s", textOf(200)} {
			if got := expectPoolFeed(t, p, seed); got != p {
				t.Errorf("PoolFeed(%s, %.20q) = %s, want it as it is", tellPool(p), seed, tellPool(got))
			}
		}
		for _, n := range slices.Concat(takeSizes(), takeSizesThatAreRefused()) {
			expectPoolRefused(t, p, n)
		}
	}
}

func TestRightPools(t *testing.T) {
	for _, key := range []string{textOf(macSize), strings.Repeat("\x00", macSize), strings.Repeat("\xff", macSize)} {
		for _, val := range []string{textOf(macSize), strings.Repeat("\x00", macSize), strings.Repeat("\xff", macSize)} {
			for takes := range poolTakes + 1 {
				p := impl.Pool{Key: key, Val: val, Takes: takes}
				if !impl.PoolOk(p) {
					t.Errorf("PoolOk(%s) = false", tellPool(p))
				}
				expectPoolTake(t, p, 70)
				expectPoolFeed(t, p, "")
				expectPoolFeed(t, p, "more")
			}
		}
	}
}

// A take leaves nothing behind: the same pool gives the same once more, also to many at one time.
func TestTakesLeaveNothingBehind(t *testing.T) {
	p := impl.PoolNew("s")
	_, want, _ := modelPoolTake(p, 100)
	var callers sync.WaitGroup
	for range 8 {
		callers.Go(func() {
			for range 20 {
				impl.PoolFeed(p, "more")
				impl.PoolTake(p, 7)
				if _, got, ok := impl.PoolTake(p, 100); got != want || !ok {
					t.Errorf("PoolTake of 100 = %.20x, %v, want %.20x, true", got, ok, want)
				}
			}
		})
	}
	callers.Wait()
}

func TestDrawnPools(t *testing.T) {
	draw := rand.New(rand.NewPCG(8, 20))
	for range 60 {
		p := expectPoolNew(t, drawText(draw))
		for range 40 {
			if draw.IntN(8) == 0 {
				p = expectPoolFeed(t, p, drawText(draw))
				continue
			}
			n := draw.IntN(mostTaken+5) - 2
			if after, _ := expectPoolTake(t, p, n); impl.PoolOk(after) {
				p = after
			}
		}
	}
}
