package tests

import (
	"crypto/mlkem"
	"crypto/sha3"
	"fmt"
	"math"
	"math/rand/v2"
	"runtime"
	"slices"
	"strings"
	"sync"
	"testing"
	"time"

	"loop.example/g00186/impl"
)

const (
	mostThrees = 4000
	sizeOfFour = 128
)

func modelByte(n int) string {
	return string([]byte{byte(modelMod(n, 256))})
}

// modelThrees are the numbers of a text, three bytes at a time: those that are taken, and all that were looked at, both of the last three bytes among them.
func modelThrees(text string) (taken []int, seen []int) {
	for three := range slices.Chunk([]byte(text), 3) {
		a, b, c := int(three[0]), int(three[1]), int(three[2])
		both := []int{a + 256*(b%16), b/16 + 16*c}
		seen = append(seen, both...)
		for _, n := range both {
			if n < ringSize && len(taken) < ringDeg {
				taken = append(taken, n)
			}
		}
		if len(taken) == ringDeg {
			break
		}
	}
	for len(taken) < ringDeg {
		taken = append(taken, 0)
	}
	return taken, seen
}

func modelUniform(seed string, i, j int) (taken []int, seen []int) {
	return modelThrees(shakeByLibrary(seed+modelByte(i)+modelByte(j), 3*mostThrees))
}

// modelFours writes the bits of a text down as figures, least first, and takes four of them for a number.
func modelFours(text string) []int {
	var figures []byte
	for _, b := range []byte(text) {
		own := fmt.Appendf(nil, "%08b", b)
		slices.Reverse(own)
		figures = append(figures, own...)
	}
	var list []int
	for four := range slices.Chunk(figures, 4) {
		n := strings.Count(string(four[:2]), "1") - strings.Count(string(four[2:]), "1")
		if n < 0 {
			n += ringSize
		}
		list = append(list, n)
	}
	return list
}

func modelSmall(seed string, n int) []int {
	return modelFours(shakeByLibrary(seed+modelByte(n), sizeOfFour))
}

func modelSmallOk(p []int) bool {
	for _, n := range p {
		switch n {
		case 0, 1, 2, ringSize - 1, ringSize - 2:
		default:
			return false
		}
	}
	return len(p) == ringDeg
}

func sampleBytes() []int {
	return []int{0, 1, 2, 127, 128, 254, 255, 256, 257, 258, 511, 512, -1, -2, -128, -255, -256, -257, 1 << 32, 1<<32 + 1, -1 << 32, math.MinInt, math.MinInt + 1, math.MaxInt, math.MaxInt - 1}
}

// sampleSeeds are seeds whose bytes, with one or two behind them, end at and beside the ends of blocks.
func sampleSeeds() []string {
	list := []string{"", "\x00", "s", "\xff", "\xff\x80", "\x00\x00", "seed", "\x1f", "\xc3\xa4"}
	for _, n := range []int{31, 32, 33, 64, 135, 136, 163, 164, 165, 166, 167, 168, 169, 170, 333, 334, 335, 336, 337, 504, 1000, impl.MaxText, impl.MaxText + 1, 100000} {
		list = append(list, textOf(n))
	}
	for _, n := range []int{32, 165, 166, 167, 168, 169} {
		list = append(list, strings.Repeat("\x00", n), strings.Repeat("\xff", n))
	}
	return list
}

func tellSeed(seed string) string {
	return fmt.Sprintf("%d bytes %.10x", len(seed), seed)
}

func expectSample(t *testing.T, what string, seed string, ask func(seed string) []int, want []int) []int {
	t.Helper()
	given, was := strings.Clone(seed), strings.Clone(seed)
	got, again := ask(given), ask(given)
	if !slices.Equal(got, want) {
		t.Errorf("%s = %s, want %s", what, tellPoly(got), tellPoly(want))
	}
	if !slices.Equal(got, again) {
		t.Errorf("%s = %s, and %s the next time", what, tellPoly(got), tellPoly(again))
	}
	if !impl.PolyOk(got) || !modelPolyOk(got) {
		t.Errorf("%s = %s, which is not right", what, tellPoly(got))
	}
	if given != was || listHolds(given, got) {
		t.Errorf("%s writes into its argument, or shares its memory", what)
	}
	return got
}

func expectUniform(t *testing.T, seed string, i, j int) []int {
	t.Helper()
	want, _ := modelUniform(seed, i, j)
	what := fmt.Sprintf("Uniform of %s, %d and %d", tellSeed(seed), i, j)
	return expectSample(t, what, seed, func(seed string) []int { return impl.Uniform(seed, i, j) }, want)
}

// expectSmall holds the second half of promise 12, too.
func expectSmall(t *testing.T, seed string, n int) []int {
	t.Helper()
	what := fmt.Sprintf("Small of %s and %d", tellSeed(seed), n)
	got := expectSample(t, what, seed, func(seed string) []int { return impl.Small(seed, n) }, modelSmall(seed, n))
	if !impl.SmallOk(got) || !modelSmallOk(got) {
		t.Errorf("%s = %s, which is not small", what, tellPoly(got))
	}
	return got
}

func expectSmallOk(t *testing.T, what string, p []int, want bool) {
	t.Helper()
	if modelSmallOk(p) != want {
		t.Fatalf("%s: the model tells of %s %v, want %v", what, tellPoly(p), !want, want)
	}
	given, stays := guarded(p, 1)
	if got := impl.SmallOk(given); got != want {
		t.Errorf("%s: SmallOk of %s = %v", what, tellPoly(p), got)
	}
	if !stays() {
		t.Errorf("%s: SmallOk of %s writes into its argument", what, tellPoly(p))
	}
}

// expectEnded waits, since the runtime may count a goroutine for a moment behind its last act.
func expectEnded(t *testing.T, what string, before int) {
	t.Helper()
	for deadline := time.Now().Add(5 * time.Second); runtime.NumGoroutine() > before; time.Sleep(time.Millisecond) {
		if time.Now().After(deadline) {
			t.Fatalf("%s: %d goroutines are left running", what, runtime.NumGoroutine()-before)
		}
	}
}

// The numbers are reckoned with another SHAKE128 than the model's.
func TestKnownUniforms(t *testing.T) {
	for _, c := range []struct {
		seed        string
		i, j        int
		first, last []int
	}{
		{"", 0, 0, []int{530, 3003, 1182, 2232, 2744, 346}, []int{143, 1587, 2876}},
		{"s", 0, 1, []int{3104, 2116, 2547, 2398, 2974, 322}, []int{1691, 2769, 1374}},
		{"s", 1, 0, []int{1104, 2111, 743, 954, 2749, 3297}, []int{3265, 1147, 511}},
		{"s", -1, 255, []int{2935, 1225, 2885, 64, 659, 291}, []int{2680, 921, 2851}},
		{strings.Repeat("\x00", 32), 1, 0, []int{1389, 3170, 1440, 2480, 679, 1601}, []int{2840, 3187, 2990}},
		{strings.Repeat("a", 166), 2, 3, []int{2740, 998, 3259, 2556, 109, 1933}, []int{1530, 398, 249}},
		{strings.Repeat("a", 167), 2, 3, []int{2795, 3196, 1359, 202, 2824, 2349}, []int{124, 2263, 2574}},
		{strings.Repeat("a", 168), -256, 257, []int{1739, 1452, 2689, 311, 222, 3065}, []int{2008, 1631, 1365}},
	} {
		got := impl.Uniform(c.seed, c.i, c.j)
		if len(got) != ringDeg || !slices.Equal(got[:6], c.first) || !slices.Equal(got[ringDeg-3:], c.last) {
			t.Errorf("Uniform of %s, %d and %d = %s, want %v .. %v", tellSeed(c.seed), c.i, c.j, tellPoly(got), c.first, c.last)
		}
	}
}

func TestKnownSmalls(t *testing.T) {
	for _, c := range []struct {
		seed        string
		n           int
		first, last []int
	}{
		{"", 0, []int{1, 0, 3328, 1, 3328, 3328, 0, 0, 0, 0, 1, 0}, []int{3328, 0, 1, 2}},
		{"s", 0, []int{3328, 1, 3328, 3327, 1, 3328, 3328, 0, 1, 0, 0, 0}, []int{0, 3328, 3328, 0}},
		{"s", 1, []int{3328, 0, 2, 0, 0, 1, 3327, 3328, 3328, 0, 0, 1}, []int{0, 1, 0, 1}},
		{"s", -1, []int{3328, 1, 0, 0, 3328, 0, 0, 3328, 0, 0, 0, 2}, []int{0, 0, 1, 0}},
		{strings.Repeat("\x00", 32), 3, []int{0, 0, 0, 0, 0, 1, 0, 0, 3328, 0, 0, 0}, []int{0, 1, 1, 0}},
		{strings.Repeat("a", 167), 2, []int{0, 0, 0, 0, 3328, 3328, 1, 3328, 3328, 0, 3328, 0}, []int{0, 3328, 0, 3328}},
		{strings.Repeat("a", 168), 256, []int{3328, 0, 1, 3328, 1, 3328, 2, 3328, 3328, 1, 1, 3328}, []int{0, 3328, 0, 3328}},
	} {
		got := impl.Small(c.seed, c.n)
		if len(got) != ringDeg || !slices.Equal(got[:12], c.first) || !slices.Equal(got[ringDeg-4:], c.last) {
			t.Errorf("Small of %s and %d = %s, want %v .. %v", tellSeed(c.seed), c.n, tellPoly(got), c.first, c.last)
		}
	}
}

func TestUniformsOfSeeds(t *testing.T) {
	for _, seed := range sampleSeeds() {
		for _, i := range sampleBytes() {
			expectUniform(t, seed, i, 0)
			expectUniform(t, seed, 1, i)
		}
	}
	for _, i := range sampleBytes() {
		for _, j := range sampleBytes() {
			expectUniform(t, "s", i, j)
			expectUniform(t, "", i, j)
		}
	}
	for n := range 2*shakeGives + 10 {
		expectUniform(t, textOf(n), n, -n)
	}
}

func TestSmallsOfSeeds(t *testing.T) {
	for _, seed := range sampleSeeds() {
		for _, n := range sampleBytes() {
			expectSmall(t, seed, n)
		}
	}
	for n := range 2*shakeGives + 10 {
		expectSmall(t, textOf(n), n)
	}
}

// Promise 12, of drawn seeds.
func TestSamplesOfDrawnSeeds(t *testing.T) {
	draw := rand.New(rand.NewPCG(12, 1))
	for range 1000 {
		seed := drawText(draw)
		expectUniform(t, seed, int(draw.Uint64()), int(draw.Uint64()))
		expectSmall(t, seed, int(draw.Uint64()))
	}
}

// Drawn seeds come to each of the edges: numbers just below and at Q, a last three bytes with a number too many, and as many threes as four blocks have.
func TestNumbersThatArePassedOver(t *testing.T) {
	met := map[string]int{}
	numbers := map[int]int{}
	for n := range 2000 {
		seed := fmt.Sprintf("drawn %d", n)
		taken, seen := modelUniform(seed, n, 3)
		got := impl.Uniform(seed, n, 3)
		if !slices.Equal(got, taken) {
			t.Errorf("Uniform of %s, %d and 3 = %s, want %s", seed, n, tellPoly(got), tellPoly(taken))
		}
		below := 0
		for _, x := range seen {
			if x < ringSize {
				below++
			}
			switch x {
			case ringSize - 1, ringSize, ringSize + 1, 0, 4095:
				met[fmt.Sprint(x)]++
			}
		}
		switch last := seen[len(seen)-2:]; {
		case below > ringDeg:
			met["a number too many"]++
		case last[1] >= ringSize:
			met["the last one passed over"]++
		case last[0] >= ringSize:
			met["the last but one passed over"]++
		default:
			met["both of the last are taken"]++
		}
		if 3*len(seen)/2 > 3*shakeGives {
			met["more than three blocks"]++
		}
		for _, x := range got {
			numbers[x]++
		}
	}
	for _, what := range []string{"3328", "3329", "3330", "0", "4095", "a number too many", "the last one passed over", "the last but one passed over", "both of the last are taken", "more than three blocks"} {
		if met[what] == 0 {
			t.Errorf("no seed comes to this: %s", what)
		}
	}
	if len(numbers) != ringSize {
		t.Errorf("%d numbers are met, want each of %d", len(numbers), ringSize)
	}
}

// Among twelve million seeds that were tried, none took fewer than 138 threes or more than 183: none is known that comes near mostThrees.
func TestSeedsOfFewAndManyThrees(t *testing.T) {
	for seed, threes := range map[string]int{"516491": 138, "226912": 140, "954471": 181, "1100365": 183} {
		if _, seen := modelUniform(seed, 0, 0); len(seen) != 2*threes {
			t.Errorf("the seed %s takes %d numbers of threes, want %d", seed, len(seen), 2*threes)
		}
		expectUniform(t, seed, 0, 0)
	}
}

func TestEachSmallNumberIsMet(t *testing.T) {
	met := map[int]int{}
	for n := range 256 {
		for _, x := range expectSmall(t, "each", n) {
			met[x]++
		}
	}
	whole := 256 * ringDeg
	for x, sixteenths := range map[int]int{0: 6, 1: 4, 2: 1, ringSize - 1: 4, ringSize - 2: 1} {
		if want := whole * sixteenths / 16; met[x] < want*9/10 || met[x] > want*11/10 {
			t.Errorf("%d is met %d times among %d, want about %d", x, met[x], whole, want)
		}
	}
	if len(met) != 5 {
		t.Errorf("%d numbers are met, want 5", len(met))
	}
}

// Keys of ML-KEM-768 are made of such samples, but for another SHAKE of the small ones: a library's keys tell whether the three bytes and the four bits are taken in the right order.
func TestSamplesMakeKnownKeys(t *testing.T) {
	const rank = 3
	draw := rand.New(rand.NewPCG(12, 2))
	for range 20 {
		seed := make([]byte, mlkem.SeedSize)
		for i := range seed {
			seed[i] = byte(draw.Uint32())
		}
		key, err := mlkem.NewDecapsulationKey768(seed)
		if err != nil {
			t.Fatal(err)
		}
		halves := sha3.Sum512(append(slices.Clone(seed[:32]), rank))
		rho, sigma := string(halves[:32]), halves[32:]
		var small [2 * rank][]int
		for i := range small {
			text := sha3.SumSHAKE256(append(slices.Clone(sigma), byte(i)), sizeOfFour)
			small[i] = impl.Ntt(modelFours(string(text)))
		}
		public := ""
		for i := range rank {
			sum := small[rank+i]
			for j := range rank {
				sum = impl.PolyAdd(sum, impl.MulNtt(impl.Uniform(rho, j, i), small[j]))
			}
			public += impl.PolyBytes(sum)
		}
		if want := string(key.EncapsulationKey().Bytes()); public+rho != want {
			t.Errorf("the key of the seed %x is %.40x, want %.40x", seed, public, want)
		}
	}
}

func TestSamplesGoByTheirBytesModulo256(t *testing.T) {
	for n := -300; n <= 600; n++ {
		first := modelMod(n, 256)
		if !slices.Equal(impl.Uniform("s", n, 5), impl.Uniform("s", first, 5)) || !slices.Equal(impl.Uniform("s", 5, n), impl.Uniform("s", 5, first)) {
			t.Errorf("Uniform of %d is not that of %d", n, first)
		}
		if !slices.Equal(impl.Small("s", n), impl.Small("s", first)) {
			t.Errorf("Small of %d is not that of %d", n, first)
		}
	}
}

func TestOtherSeedsHaveOtherSamples(t *testing.T) {
	seen := map[string]string{}
	meet := func(what string, p []int) {
		t.Helper()
		if other, met := seen[impl.PolyBytes(p)]; met {
			t.Errorf("%s and %s are one sample", what, other)
		}
		seen[impl.PolyBytes(p)] = what
	}
	for i := range 256 {
		meet(fmt.Sprintf("Uniform of s, %d and 7", i), impl.Uniform("s", i, 7))
		if i != 7 {
			meet(fmt.Sprintf("Uniform of s, 7 and %d", i), impl.Uniform("s", 7, i))
		}
		meet(fmt.Sprintf("Small of s and %d", i), impl.Small("s", i))
	}
	for _, seed := range sampleSeeds() {
		if seed != "s" {
			meet("Uniform of "+tellSeed(seed), impl.Uniform(seed, 7, 7))
			meet("Small of "+tellSeed(seed), impl.Small(seed, 7))
		}
	}
}

func TestUniformsAreNotSmall(t *testing.T) {
	for _, seed := range sampleSeeds() {
		expectSmallOk(t, "a uniform one", impl.Uniform(seed, 0, 1), false)
	}
}

func TestSmallOkOfEachNumber(t *testing.T) {
	for n := range ringSize {
		small := n <= 2 || n >= ringSize-2
		for _, i := range []int{0, 1, 127, 128, 254, 255} {
			expectSmallOk(t, fmt.Sprintf("%d at %d", n, i), onePower(n, i), small)
		}
		expectSmallOk(t, fmt.Sprintf("%d at each place", n), eachNumber(n), small)
	}
}

func TestSmallOkAtEachPlace(t *testing.T) {
	sample := impl.Small("s", 0)
	for i := range ringDeg {
		for n, small := range map[int]bool{0: true, 1: true, 2: true, 3: false, 4: false, 1664: false, 1665: false, ringSize - 4: false, ringSize - 3: false, ringSize - 2: true, ringSize - 1: true} {
			for _, p := range [][]int{sample, eachNumber(2), eachNumber(ringSize - 2), make([]int, ringDeg)} {
				p = slices.Clone(p)
				p[i] = n
				expectSmallOk(t, fmt.Sprintf("%d at %d", n, i), p, small)
			}
		}
		for _, n := range []int{-3, -2, -1, ringSize, ringSize + 1, ringSize + 2, ringSize + 3, -ringSize, -ringSize - 1, 2 * ringSize, math.MinInt, math.MaxInt} {
			expectSmallOk(t, fmt.Sprintf("%d at %d", n, i), onePower(n, i), false)
		}
	}
}

func TestSmallOkOfWrongLists(t *testing.T) {
	for _, p := range wrongTransforms() {
		expectSmallOk(t, "a wrong list", p, false)
	}
	sample := append(impl.Small("s", 0), impl.Small("s", 1)...)
	for size := range len(sample) + 1 {
		expectSmallOk(t, fmt.Sprintf("%d small numbers", size), sample[:size], size == ringDeg)
		expectSmallOk(t, fmt.Sprintf("%d zeros", size), make([]int, size), size == ringDeg)
	}
}

func TestSamplesShareNoMemory(t *testing.T) {
	for _, seed := range []string{"", "s", textOf(32), textOf(shakeGives), textOf(2000)} {
		expectOwnLists(t, "Uniform", func() ([]int, bool) { return impl.Uniform(seed, 0, 1), true })
		expectOwnLists(t, "Small", func() ([]int, bool) { return impl.Small(seed, 0), true })
		if listsShare(impl.Uniform(seed, 0, 1), impl.Small(seed, 0)) {
			t.Errorf("a uniform and a small sample of %s share memory", tellSeed(seed))
		}
	}
}

func TestSamplesLeaveNothingRunning(t *testing.T) {
	before := runtime.NumGoroutine()
	for n := range 500 {
		impl.Uniform("s", n, 0)
		impl.Small("s", n)
		impl.SmallOk(eachNumber(n))
		expectEnded(t, fmt.Sprintf("samples of %d", n), before)
	}
	for n := range 2000 {
		impl.Uniform("s", 0, n)
		impl.Small("t", n)
	}
	expectEnded(t, "many samples", before)
}

func TestSamplesAmongMany(t *testing.T) {
	before := runtime.NumGoroutine()
	var callers sync.WaitGroup
	for caller := range 8 {
		callers.Go(func() {
			for n := range 40 {
				seed := fmt.Sprint(caller)
				want, _ := modelUniform(seed, n, caller)
				if got := impl.Uniform(seed, n, caller); !slices.Equal(got, want) {
					t.Errorf("a uniform sample among many is another one")
				}
				if got := impl.Small(seed, n); !slices.Equal(got, modelSmall(seed, n)) || !impl.SmallOk(got) {
					t.Errorf("a small sample among many is another one")
				}
			}
		})
	}
	callers.Wait()
	expectEnded(t, "samples among many", before)
}
