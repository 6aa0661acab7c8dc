package tests

import (
	"fmt"
	"math"
	"math/rand/v2"
	"slices"
	"strconv"
	"strings"
	"sync"
	"testing"

	"loop.example/g00186/impl"
)

const (
	shortSize  = 4
	chainCount = 10
	chainSteps = 15
	sumCount   = 8*chainSteps + 1

	// Texts whose digits are all 0, and all 15, but for those of the sum.
	textOfZeros    = "426479724"
	textOfFifteens = "3610672442"
)

func modelChop(s string) string {
	return digestByLibrary(s)[:4]
}

func modelChainOf(x string, leaf, chain, from, steps int) string {
	place := modelMod(from, 256)
	for done := 0; done < steps && done < 15; done++ {
		x = modelChop(modelByte(leaf) + modelByte(chain) + modelByte(place) + x)
		place = (place + 1) % 256
	}
	return x
}

// modelDigitsOf reads the half bytes as the figures of numbers of base 16.
func modelDigitsOf(m string) []int {
	sum := 0
	var digits []int
	for _, figure := range fmt.Sprintf("%x", modelChop(m)) {
		digit, _ := strconv.ParseInt(string(figure), 16, 64)
		digits = append(digits, int(digit))
		sum += 15 - int(digit)
	}
	for _, figure := range fmt.Sprintf("%02x", sum) {
		digit, _ := strconv.ParseInt(string(figure), 16, 64)
		digits = append(digits, int(digit))
	}
	return digits
}

func modelOnceKey(seed string, leaf int) []string {
	var keys []string
	for chain := range 10 {
		keys = append(keys, modelChop(seed+modelByte(leaf)+modelByte(chain)+"o"))
	}
	return keys
}

func modelOncePublic(keys []string, leaf int) string {
	if len(keys) != 10 {
		return ""
	}
	all := ""
	for chain, x := range keys {
		all += modelChainOf(x, leaf, chain, 0, 15)
	}
	return modelChop(all)
}

func modelOnceSign(keys []string, leaf int, m string) []string {
	if len(keys) != 10 {
		return nil
	}
	var list []string
	for chain, digit := range modelDigitsOf(m) {
		list = append(list, modelChainOf(keys[chain], leaf, chain, 0, digit))
	}
	return list
}

func modelOnceFound(list []string, leaf int, m string) string {
	if len(list) != 10 {
		return ""
	}
	all := ""
	for chain, digit := range modelDigitsOf(m) {
		all += modelChainOf(list[chain], leaf, chain, digit, 15-digit)
	}
	return modelChop(all)
}

func cloneTexts(list []string) []string {
	var own []string
	for _, s := range list {
		own = append(own, strings.Clone(s))
	}
	return own
}

// chainAsk asks one of the chapter's functions; what it answers is told as a list, also when it is one text.
type chainAsk func(list []string, text string) []string

// expectChain asks twice, so that an answer that changes is seen, and that it is new memory and leaves its arguments alone.
func expectChain(t *testing.T, what string, ask chainAsk, want []string, list []string, text string) []string {
	t.Helper()
	given, stays := guarded(cloneTexts(list), "spare room")
	givenText := strings.Clone(text)
	was := cloneTexts(given)
	got, again := ask(given, givenText), ask(given, givenText)
	if !slices.Equal(got, want) || !slices.Equal(again, want) {
		t.Errorf("%s of %s and %s = %s, and %s the next time, want %s", what, tellRecords(list), tellSeed(text), tellRecords(got), tellRecords(again), tellRecords(want))
	}
	if !stays() || !slices.Equal(given, was) || givenText != text {
		t.Errorf("%s of %s and %s writes into an argument", what, tellRecords(list), tellSeed(text))
	}
	if listsShare(got, given) || listsShare(again, given) || listsShare(got, again) {
		t.Errorf("%s of %s and %s shares a list with an argument or with another answer", what, tellRecords(list), tellSeed(text))
	}
	expectOwnTexts(t, what, slices.Concat(got, again), append(slices.Clone(given), givenText)...)
	return got
}

func expectChop(t *testing.T, s string) string {
	t.Helper()
	ask := func(_ []string, text string) []string { return []string{impl.Chop(text)} }
	got := expectChain(t, "Chop", ask, []string{modelChop(s)}, nil, s)[0]
	if len(got) != shortSize || got != impl.DigestOf(s)[:shortSize] {
		t.Errorf("Chop of %s = %x", tellSeed(s), got)
	}
	return got
}

func expectChainOf(t *testing.T, x string, leaf, chain, from, steps int) string {
	t.Helper()
	what := fmt.Sprintf("ChainOf with leaf %d, chain %d, from %d, %d steps", leaf, chain, from, steps)
	ask := func(_ []string, text string) []string { return []string{impl.ChainOf(text, leaf, chain, from, steps)} }
	return expectChain(t, what, ask, []string{modelChainOf(x, leaf, chain, from, steps)}, nil, x)[0]
}

func expectDigitsOf(t *testing.T, m string) []int {
	t.Helper()
	given := strings.Clone(m)
	got, again := impl.DigitsOf(given), impl.DigitsOf(given)
	if want := modelDigitsOf(m); !slices.Equal(got, want) || !slices.Equal(again, want) {
		t.Fatalf("DigitsOf of %s = %v, and %v the next time, want %v", tellSeed(m), got, again, want)
	}
	if given != m || listHolds(given, got) || listsShare(got, again) {
		t.Errorf("DigitsOf of %s writes into its argument, or shares memory", tellSeed(m))
	}
	sum := 0
	for i, digit := range got {
		if digit < 0 || digit > chainSteps {
			t.Errorf("DigitsOf of %s = %v, where digit %d is no half byte", tellSeed(m), got, i)
		}
		if i < 2*shortSize {
			sum += chainSteps - digit
		}
	}
	if len(got) != chainCount || got[8]*16+got[9] != sum {
		t.Errorf("DigitsOf of %s = %v, of which the sum is %d", tellSeed(m), got, sum)
	}
	return got
}

func expectOnceKey(t *testing.T, seed string, leaf int) []string {
	t.Helper()
	ask := func(_ []string, text string) []string { return impl.OnceKey(text, leaf) }
	keys := expectChain(t, fmt.Sprintf("OnceKey with leaf %d", leaf), ask, modelOnceKey(seed, leaf), nil, seed)
	for _, key := range keys {
		if len(key) != shortSize {
			t.Errorf("OnceKey of %s with leaf %d = %s", tellSeed(seed), leaf, tellRecords(keys))
		}
	}
	return keys
}

func expectOncePublic(t *testing.T, keys []string, leaf int) string {
	t.Helper()
	ask := func(list []string, _ string) []string { return []string{impl.OncePublic(list, leaf)} }
	return expectChain(t, fmt.Sprintf("OncePublic with leaf %d", leaf), ask, []string{modelOncePublic(keys, leaf)}, keys, "")[0]
}

func expectOnceSign(t *testing.T, keys []string, leaf int, m string) []string {
	t.Helper()
	ask := func(list []string, text string) []string { return impl.OnceSign(list, leaf, text) }
	return expectChain(t, fmt.Sprintf("OnceSign with leaf %d", leaf), ask, modelOnceSign(keys, leaf, m), keys, m)
}

func expectOnceFound(t *testing.T, list []string, leaf int, m string) string {
	t.Helper()
	ask := func(list []string, text string) []string { return []string{impl.OnceFound(list, leaf, text)} }
	return expectChain(t, fmt.Sprintf("OnceFound with leaf %d", leaf), ask, []string{modelOnceFound(list, leaf, m)}, list, m)[0]
}

// expectPromise14 holds the second half of the promise, with each of the functions held against its model.
func expectPromise14(t *testing.T, keys []string, leaf int, m string) (public string, signed []string) {
	t.Helper()
	public, signed = expectOncePublic(t, keys, leaf), expectOnceSign(t, keys, leaf, m)
	found := expectOnceFound(t, signed, leaf, m)
	if len(signed) != chainCount || len(public) != shortSize || found != public {
		t.Errorf("a signature of %s with leaf %d is found to be of %x, not of %x", tellSeed(m), leaf, found, public)
	}
	return public, signed
}

func chainTexts() []string {
	list := []string{"", "\x00", "x", "\xff", "abc", "\x00\x00\x00", "abcd", "\x00\x00\x00\x00", "\xff\xff\xff\xff", "abcde", "\xc3\xa4\xc3\xb6"}
	for _, n := range []int{31, 32, 33, 51, 52, 53, 55, 56, 57, 60, 61, 63, 64, 65, 119, 120, 128, 1000} {
		list = append(list, textOf(n))
	}
	return list
}

// greatTexts come beside chainTexts where a function is asked of few texts.
func greatTexts() []string {
	return []string{textOf(impl.MaxText), textOf(impl.MaxText + 1), textOf(100000), strings.Repeat("\xff", 70000)}
}

func chainNumbers() []int {
	return []int{0, 1, 2, 9, 10, 14, 15, 16, 127, 128, 240, 241, 254, 255, 256, 257, 511, 512, 1000, -1, -2, -15, -16, -128, -255, -256, -257, 1 << 32, 1<<32 + 255, -1 << 32, math.MinInt, math.MinInt + 1, math.MaxInt, math.MaxInt - 1, math.MaxInt - 14}
}

func stepNumbers() []int {
	return []int{math.MinInt, math.MinInt + 1, -1 << 32, -256, -16, -15, -2, -1, 0, 1, 2, 3, 7, 8, 14, 15, 16, 17, 18, 30, 31, 255, 256, 257, 272, 1 << 32, 1<<32 + 1, math.MaxInt - 1, math.MaxInt}
}

// textsOfSums has a text for each sum that digits may have; those of the seldom ones were looked for once, and are written down.
func textsOfSums(t *testing.T) map[int]string {
	t.Helper()
	known := map[int]string{
		0: textOfFifteens, 1: "181091571", 2: "95660816", 3: "45742198", 4: "6578990", 5: "197301", 6: "3299074", 7: "1755088", 8: "433384",
		112: "218355", 113: "2319085", 114: "118476", 115: "3369442", 116: "12822758", 117: "665782", 118: "240074499", 119: "76496374", 120: textOfZeros,
	}
	for n := 0; len(known) < sumCount; n++ {
		if n == 1000000 {
			t.Fatalf("texts of %d sums are found, want %d", len(known), sumCount)
		}
		m := strconv.Itoa(n)
		digits := modelDigitsOf(m)
		sum := 16*digits[8] + digits[9]
		if _, there := known[sum]; !there {
			known[sum] = m
		}
	}
	return known
}

// keysOfAnyTexts are lists of Chains texts, which need not be such as OnceKey makes.
func keysOfAnyTexts() [][]string {
	empty, long, mixed := make([]string, chainCount), make([]string, chainCount), make([]string, chainCount)
	for i := range chainCount {
		long[i] = textOf(40 * i)
		if i%3 == 1 {
			mixed[i] = textOf(i)
		}
	}
	firstEmpty, lastEmpty := modelOnceKey("first", 1), modelOnceKey("last", 1)
	firstEmpty[0], lastEmpty[chainCount-1] = "", ""
	alike := slices.Repeat([]string{"same"}, chainCount)
	return [][]string{empty, long, mixed, firstEmpty, lastEmpty, alike, modelOnceKey("s", 0), modelOnceKey("s", 3)}
}

// wrongKeys are lists that have not Chains texts.
func wrongKeys() [][]string {
	list := [][]string{nil, {}, {""}, {"abcd"}, make([]string, chainCount-1), make([]string, chainCount+1), make([]string, 2*chainCount)}
	keys := append(modelOnceKey("wrong", 0), modelOnceKey("more", 0)...)
	for size := range len(keys) + 1 {
		if size != chainCount {
			list = append(list, keys[:size])
		}
	}
	return append(list, slices.Repeat(keys, 30))
}

func TestTheChains(t *testing.T) {
	if impl.Short != shortSize || impl.Chains != chainCount {
		t.Errorf("Short = %d, Chains = %d", impl.Short, impl.Chains)
	}
}

// What these tests know comes from another program, which was written down from the chapter by itself.
func TestKnownChops(t *testing.T) {
	for _, c := range []struct {
		text, chop string
		digits     []int
	}{
		{"", "e3b0c442", []int{14, 3, 11, 0, 12, 4, 4, 2, 4, 6}},
		{"\x00", "6e340b9c", []int{6, 14, 3, 4, 0, 11, 9, 12, 3, 13}},
		{"m", "62c66a7a", []int{6, 2, 12, 6, 6, 10, 7, 10, 3, 13}},
		{"abc", "ba7816bf", []int{11, 10, 7, 8, 1, 6, 11, 15, 3, 3}},
		{"\xff\xff\xff\xff", "ad95131b", []int{10, 13, 9, 5, 1, 3, 1, 11, 4, 3}},
		{"abcde", "36bbe50e", []int{3, 6, 11, 11, 14, 5, 0, 14, 3, 8}},
		{strings.Repeat("a", 1000), "41edece4", []int{4, 1, 14, 13, 14, 12, 14, 4, 2, 12}},
		{textOfZeros, "00000000", []int{0, 0, 0, 0, 0, 0, 0, 0, 7, 8}},
		{textOfFifteens, "ffffffff", []int{15, 15, 15, 15, 15, 15, 15, 15, 0, 0}},
	} {
		if got := impl.Chop(c.text); got != bytesOf(t, c.chop) {
			t.Errorf("Chop of %s = %x, want %s", tellSeed(c.text), got, c.chop)
		}
		if got := impl.DigitsOf(c.text); !slices.Equal(got, c.digits) {
			t.Errorf("DigitsOf of %s = %v, want %v", tellSeed(c.text), got, c.digits)
		}
	}
}

func TestKnownChains(t *testing.T) {
	for _, c := range []struct {
		x                        string
		leaf, chain, from, steps int
		want                     string
	}{
		{"x", 0, 0, 0, 0, "78"},
		{"x", 0, 0, 0, -1, "78"},
		{"x", 0, 0, 0, 1, "3c733359"},
		{"x", 0, 0, 0, 15, "b2916847"},
		{"x", 0, 0, 0, 16, "b2916847"},
		{"", 0, 0, 0, 0, ""},
		{"", 0, 0, 0, 1, "709e80c8"},
		{"", 1, 2, 3, 4, "275c8148"},
		{"\x00\x01\x02\x03", 255, 9, 14, 2, "d98f8497"},
		{"\x00\x01\x02\x03", 256, 9, 255, 3, "babf78ba"},
		{"\x00\x01\x02\x03", -1, -2, -3, 15, "14cf5464"},
		{"longer than four", 3, 300, -300, 7, "868fa9a3"},
	} {
		if got := impl.ChainOf(c.x, c.leaf, c.chain, c.from, c.steps); got != bytesOf(t, c.want) {
			t.Errorf("ChainOf(%q, %d, %d, %d, %d) = %x, want %s", c.x, c.leaf, c.chain, c.from, c.steps, got, c.want)
		}
	}
}

func TestKnownSignatures(t *testing.T) {
	for _, c := range []struct {
		seed                                           string
		leaf                                           int
		m                                              string
		keys, public, signed, byOtherLeaf, byOtherText string
	}{
		{"s", 1, "m", "4d13df1bffc4abaee77096855ad5f1a0d004e4c9c618b9d3addad34326b12f0ad00a9539f2101804", "8d7377d6",
			"56aced32cbc91e2c446bff27f2a1b9ef1c362595f5141dc64ac0098f74313cdbe19332400c655a1b", "1a44af6b", "706d7d5d"},
		{"", 0, "", "95015cca04f1f4d4bb69a5cf40b84d9320f8f35340f49359322c7a23811f9e620ac6233cf8922416", "4ba74211",
			"a7be9f96ff54983b8fe0f61c40b84d9373cf56e22a42d215868e4bbe3d14f769cb2964a4b6696733", "8e7d2b64", "da96c9e1"},
		{strings.Repeat("\x00", 32), 255, "abc", "aea77de0f18bb20f2df4e56595851200ca1c1afbd24c8b0cb8c834e241ce998e59c2f6072c4c70db", "a2f2bade",
			"dad59f872a07e410a9ea1b1f3ab09c53d5dfbc982a1b71ae4687fe2a51ce92cabb3dc9d73b5d0c16", "b9222b3c", "da6a9e30"},
		{"a seed", 256, "a text", "70ff357f1f6d0e66b9f2c317cbe027353fdc6adcde39586294f92a1dd5ec2df783dab6e4fb354c7a", "ae780b27",
			"c88991d45596317e702960945e663f945ea32b776d5a27e86c98e042e8be2b6a8e9795686f04d583", "16487b25", "9bb2978f"},
		{"a seed", -1, "a text", "6808c69efe64e774fbe2ab04861f095aa2bb7f0a90b3dbbdb366024d23c9b881f0b235970ad2f9fb", "419f178b",
			"6a402bcee3aa08ef7fe73115ff946c78f4198b6c82f60e20fa8f492e1adc1a66c9c71508194109a9", "ef12c146", "df54ec67"},
		{strings.Repeat("a", 100), 3, strings.Repeat("\xff", 70), "0a9f64afd990786e60f4d5c8678370763608eb870d8927ff88ad384b49969db45a527b1450670058", "4cbdefae",
			"0a9f64af3f185e7bba6c5accdddbae192c06db180d8927ffa57c800acd88f42a6ef576a098b10fa2", "c112e12d", "763ad3d0"},
	} {
		keys := impl.OnceKey(c.seed, c.leaf)
		signed := impl.OnceSign(keys, c.leaf, c.m)
		for i, pair := range [][2]string{
			{strings.Join(keys, ""), c.keys}, {impl.OncePublic(keys, c.leaf), c.public}, {strings.Join(signed, ""), c.signed},
			{impl.OnceFound(signed, c.leaf, c.m), c.public}, {impl.OnceFound(signed, c.leaf+1, c.m), c.byOtherLeaf}, {impl.OnceFound(signed, c.leaf, c.m+"!"), c.byOtherText},
		} {
			if pair[0] != bytesOf(t, pair[1]) {
				t.Errorf("of the seed %s, leaf %d and %s, %d is %x, want %s", tellSeed(c.seed), c.leaf, tellSeed(c.m), i, pair[0], pair[1])
			}
		}
	}
}

func TestChopsOfTexts(t *testing.T) {
	met := map[string]string{}
	for _, s := range slices.Concat(chainTexts(), greatTexts()) {
		chop := expectChop(t, s)
		if other, there := met[chop]; there {
			t.Errorf("%s and %s have one Chop", tellSeed(s), tellSeed(other))
		}
		met[chop] = s
	}
	for n := range 300 {
		expectChop(t, textOf(n))
		expectChop(t, strings.Repeat("\x00", n))
	}
}

func TestChainsOfSteps(t *testing.T) {
	for _, x := range chainTexts() {
		for _, steps := range stepNumbers() {
			got := expectChainOf(t, x, 1, 2, 3, steps)
			switch {
			case steps <= 0 && got != x:
				t.Errorf("a chain of %s that goes %d steps is %x", tellSeed(x), steps, got)
			case steps > chainSteps && got != impl.ChainOf(x, 1, 2, 3, chainSteps):
				t.Errorf("a chain of %s that goes %d steps is not as it goes 15", tellSeed(x), steps)
			case steps > 0 && len(got) != shortSize:
				t.Errorf("a chain of %s that goes %d steps is %x", tellSeed(x), steps, got)
			}
		}
	}
	for _, x := range greatTexts() {
		for _, steps := range []int{-1, 0, 1, 15, 16} {
			expectChainOf(t, x, 0, 0, 0, steps)
		}
	}
}

func TestChainsOfNumbers(t *testing.T) {
	for _, n := range chainNumbers() {
		for _, steps := range []int{-1, 0, 1, 2, 15, 16} {
			for _, x := range []string{"", "x", "abcd", textOf(60)} {
				expectChainOf(t, x, n, 0, 0, steps)
				expectChainOf(t, x, 0, n, 0, steps)
				expectChainOf(t, x, 0, 0, n, steps)
				expectChainOf(t, x, n, n, n, steps)
			}
		}
		for _, other := range chainNumbers() {
			expectChainOf(t, "abcd", n, other, 1, 2)
			expectChainOf(t, "abcd", n, 1, other, 2)
			expectChainOf(t, "abcd", 1, n, other, 2)
		}
	}
}

func TestChainsGoByTheirBytesModulo256(t *testing.T) {
	for n := -300; n <= 600; n++ {
		first := modelMod(n, 256)
		if impl.ChainOf("x", n, 5, 5, 2) != impl.ChainOf("x", first, 5, 5, 2) || impl.ChainOf("x", 5, n, 5, 2) != impl.ChainOf("x", 5, first, 5, 2) || impl.ChainOf("x", 5, 5, n, 9) != impl.ChainOf("x", 5, 5, first, 9) {
			t.Errorf("a chain with %d is not that with %d", n, first)
		}
	}
}

func TestOtherPlacesHaveOtherChains(t *testing.T) {
	places := map[[3]int]bool{}
	for n := range 256 {
		places[[3]int{n, 1, 2}], places[[3]int{1, n, 2}], places[[3]int{1, 2, n}] = true, true, true
	}
	met := map[string][3]int{}
	for place := range places {
		end := impl.ChainOf("x", place[0], place[1], place[2], 1)
		if other, there := met[end]; there {
			t.Errorf("the leaf, chain and from %v and %v have one chain", place, other)
		}
		met[end] = place
	}
}

// Promise 14, first half.
func TestChainsGoOnWhereTheyStopped(t *testing.T) {
	for _, x := range chainTexts() {
		for _, from := range []int{0, 1, 7, 15, 240, 250, 255, 256, -1, -8, -256, math.MinInt, math.MaxInt - 16} {
			for first := range chainSteps + 1 {
				stopped := impl.ChainOf(x, 3, 4, from, first)
				for more := range chainSteps + 1 - first {
					whole := impl.ChainOf(x, 3, 4, from, first+more)
					if got := impl.ChainOf(stopped, 3, 4, from+first, more); got != whole {
						t.Errorf("a chain of %s from %d that goes %d steps, and %d more, is %x, not %x", tellSeed(x), from, first, more, got, whole)
					}
				}
			}
		}
	}
}

func TestDrawnChainsGoOn(t *testing.T) {
	draw := rand.New(rand.NewPCG(14, 1))
	for range 2000 {
		x, leaf, chain, from := drawText(draw), int(draw.Uint64()), int(draw.Uint64()), int(draw.Uint64())
		whole := expectChainOf(t, x, leaf, chain, from, chainSteps)
		parts, gone := x, 0
		for gone < chainSteps {
			more := min(draw.IntN(6), chainSteps-gone)
			parts = expectChainOf(t, parts, leaf, chain, from+gone, more)
			gone += more
		}
		if parts != whole {
			t.Errorf("a chain of %s with %d, %d and %d that goes in parts is %x, not %x", tellSeed(x), leaf, chain, from, parts, whole)
		}
	}
}

func TestDigitsOfTexts(t *testing.T) {
	for _, m := range slices.Concat(chainTexts(), greatTexts()) {
		expectDigitsOf(t, m)
	}
	met := map[[2]int]int{}
	for n := range 3000 {
		for i, digit := range expectDigitsOf(t, fmt.Sprint("text ", n)) {
			met[[2]int{i, digit}]++
		}
	}
	for i := range 2 * shortSize {
		for digit := range chainSteps + 1 {
			if met[[2]int{i, digit}] == 0 {
				t.Errorf("no text has the digit %d at %d", digit, i)
			}
		}
	}
}

func TestSumsOfDigits(t *testing.T) {
	for sum, m := range textsOfSums(t) {
		if digits := expectDigitsOf(t, m); digits[8] != sum/16 || digits[9] != sum%16 {
			t.Errorf("the digits of %s are %v, want a sum of %d", m, digits, sum)
		}
	}
}

// A signature of one text is never further on, or as far, in all its chains than one of another text: else it could be made of it.
func TestNoDigitsAreAllGreater(t *testing.T) {
	var all [][]int
	for _, m := range textsOfSums(t) {
		all = append(all, impl.DigitsOf(m))
	}
	for n := range 700 {
		all = append(all, impl.DigitsOf(fmt.Sprint("greater ", n)))
	}
	for i, a := range all {
		for j, b := range all {
			further := true
			for k := range chainCount {
				further = further && a[k] >= b[k]
			}
			if further && i != j {
				t.Errorf("the digits %v are nowhere less than %v", a, b)
			}
		}
	}
}

func TestKeysOfSeeds(t *testing.T) {
	for _, seed := range slices.Concat(chainTexts(), greatTexts()) {
		for _, leaf := range []int{0, 1, 3, 255, 256, -1, math.MinInt, math.MaxInt} {
			expectOnceKey(t, seed, leaf)
		}
	}
	for _, leaf := range chainNumbers() {
		expectOnceKey(t, "", leaf)
		expectOnceKey(t, "a seed", leaf)
		if !slices.Equal(impl.OnceKey("a seed", leaf), impl.OnceKey("a seed", modelMod(leaf, 256))) {
			t.Errorf("the keys of leaf %d are not those modulo 256", leaf)
		}
	}
	met := map[string]string{}
	for leaf := range 256 {
		for _, seed := range []string{"", "s", "t", textOf(32)} {
			for chain, key := range impl.OnceKey(seed, leaf) {
				what := fmt.Sprintf("%s, leaf %d, chain %d", tellSeed(seed), leaf, chain)
				if other, there := met[key]; there {
					t.Errorf("%s and %s have one key", what, other)
				}
				met[key] = what
			}
		}
	}
}

// Promise 14, second half.
func TestSignaturesAreOfTheirKeys(t *testing.T) {
	for i, seed := range chainTexts() {
		for j, m := range chainTexts() {
			leaf := chainNumbers()[(7*i+j)%len(chainNumbers())]
			keys := expectOnceKey(t, seed, leaf)
			expectPromise14(t, keys, leaf, m)
		}
	}
	for _, leaf := range chainNumbers() {
		for _, keys := range keysOfAnyTexts() {
			expectPromise14(t, keys, leaf, fmt.Sprint("leaf ", leaf))
		}
	}
	for _, m := range greatTexts() {
		expectPromise14(t, impl.OnceKey("great", 0), 0, m)
	}
}

func TestDrawnSignatures(t *testing.T) {
	draw := rand.New(rand.NewPCG(14, 2))
	for range 500 {
		leaf, m := int(draw.Uint64()), drawText(draw)
		expectPromise14(t, impl.OnceKey(drawText(draw), leaf), leaf, m)
		var keys []string
		for range chainCount {
			keys = append(keys, drawText(draw))
		}
		expectPromise14(t, keys, leaf, m)
	}
}

// Where a digit is 0 the key's text itself is in the signature, where it is 15 nothing is left to go: texts of each sum come to all of these.
func TestSignaturesOfEachSum(t *testing.T) {
	for sum, m := range textsOfSums(t) {
		for _, keys := range keysOfAnyTexts() {
			_, signed := expectPromise14(t, keys, sum, m)
			for chain, digit := range modelDigitsOf(m) {
				if digit == 0 && signed[chain] != keys[chain] {
					t.Errorf("chain %d of a signature of %s is not begun, but %x is not %x", chain, m, signed[chain], keys[chain])
				}
				if digit == chainSteps && signed[chain] != modelChainOf(keys[chain], sum, chain, 0, chainSteps) {
					t.Errorf("chain %d of a signature of %s is not at its end", chain, m)
				}
			}
		}
	}
}

func TestSignaturesAreNotOfOtherTexts(t *testing.T) {
	texts := slices.Concat(chainTexts(), []string{textOfZeros, textOfFifteens, "text", "texT", "text ", " text", "txet"})
	for leaf := range 4 {
		keys := impl.OnceKey("other texts", leaf)
		public := impl.OncePublic(keys, leaf)
		for _, m := range texts {
			signed := impl.OnceSign(keys, leaf, m)
			for _, other := range texts {
				if found := expectOnceFound(t, signed, leaf, other); (found == public) != (other == m) || len(found) != shortSize {
					t.Errorf("a signature of %s is found of %x for %s, where the key is %x", tellSeed(m), found, tellSeed(other), public)
				}
			}
		}
	}
}

func TestSignaturesAreNotOfOtherLeaves(t *testing.T) {
	for _, m := range []string{"", "m", "abc", textOf(100), textOfZeros, textOfFifteens} {
		for _, leaf := range []int{0, 1, 3, 200, 255} {
			keys := impl.OnceKey("other leaves", leaf)
			public := impl.OncePublic(keys, leaf)
			signed := impl.OnceSign(keys, leaf, m)
			for other := -256; other < 512; other++ {
				same := modelMod(other, 256) == leaf
				if found := impl.OnceFound(signed, other, m); (found == public) != same || found != modelOnceFound(signed, other, m) {
					t.Errorf("a signature of %s with leaf %d is found of %x with leaf %d, where the key is %x", tellSeed(m), leaf, found, other, public)
				}
				if (impl.OncePublic(keys, other) == public) != same {
					t.Errorf("keys of leaf %d have the public text %x with leaf %d, too", leaf, public, other)
				}
			}
		}
	}
}

func TestSignaturesWithOneByteTurned(t *testing.T) {
	for leaf, m := range []string{"", "m", "abc", textOf(100), textOfZeros, textOfFifteens} {
		keys := impl.OnceKey("turned", leaf)
		public, signed := expectPromise14(t, keys, leaf, m)
		for chain := range chainCount {
			for at := range shortSize {
				for bit := range 8 {
					turned := slices.Clone(signed)
					turned[chain] = turnedByte(turned[chain], at, 1<<bit)
					if found := expectOnceFound(t, turned, leaf, m); found == public || len(found) != shortSize {
						t.Errorf("a signature of %s with bit %d of byte %d of chain %d turned is found of %x", tellSeed(m), bit, at, chain, found)
					}
				}
			}
		}
	}
}

func TestSignaturesWithChangedTexts(t *testing.T) {
	keys := impl.OnceKey("changed", 2)
	public, signed := expectPromise14(t, keys, 2, "m")
	for chain := range chainCount {
		for what, text := range map[string]string{"nothing": "", "less": signed[chain][:shortSize-1], "more": signed[chain] + "\x00", "what is ahead": keys[chain] + signed[chain], "another": "abcd"} {
			changed := slices.Clone(signed)
			changed[chain] = text
			if found := expectOnceFound(t, changed, 2, "m"); found == public || len(found) != shortSize {
				t.Errorf("a signature with %s in the place of chain %d is found of %x", what, chain, found)
			}
		}
		changed := slices.Clone(signed)
		next := (chain + 1) % chainCount
		changed[chain], changed[next] = changed[next], changed[chain]
		if found := expectOnceFound(t, changed, 2, "m"); found == public {
			t.Errorf("a signature with the chains %d and %d in each other's place is found of its key", chain, next)
		}
	}
	if other := impl.OncePublic(impl.OnceKey("another seed", 2), 2); other == public || other == impl.OnceFound(signed, 2, "m") {
		t.Error("a signature is found to be of another seed")
	}
}

func TestListsOfOtherSizes(t *testing.T) {
	for _, list := range wrongKeys() {
		for _, leaf := range []int{0, 3, -1, 256, math.MaxInt} {
			for _, m := range []string{"", "m", textOfZeros, textOfFifteens, textOf(100)} {
				public, signed, found := expectOncePublic(t, list, leaf), expectOnceSign(t, list, leaf, m), expectOnceFound(t, list, leaf, m)
				if public != "" || len(signed) != 0 || found != "" {
					t.Errorf("of %s come %x, %s and %x, want nothing", tellRecords(list), public, tellRecords(signed), found)
				}
			}
		}
	}
}

func TestListsWithEmptyTexts(t *testing.T) {
	keys := impl.OnceKey("empty", 1)
	for chain := range chainCount {
		list := slices.Clone(keys)
		list[chain] = ""
		for _, m := range []string{"", "m", textOfZeros, textOfFifteens} {
			if public, _ := expectPromise14(t, list, 1, m); public == impl.OncePublic(keys, 1) {
				t.Errorf("a key with nothing in chain %d has the same public text", chain)
			}
			expectOnceFound(t, list, 1, m)
		}
	}
}

func TestChainsShareNoMemory(t *testing.T) {
	expectOwnLists(t, "DigitsOf", func() ([]int, bool) { return impl.DigitsOf("m"), true })
	for _, m := range []string{"m", textOfZeros, textOfFifteens} {
		keys := impl.OnceKey("s", 1)
		signed := impl.OnceSign(keys, 1, m)
		want, public := slices.Clone(signed), impl.OncePublic(keys, 1)
		// What is written into the keys, or into one answer, is not seen in another.
		again := impl.OnceSign(keys, 1, m)
		clear(keys)
		clear(again)
		if !slices.Equal(signed, want) || !slices.Equal(impl.OnceSign(impl.OnceKey("s", 1), 1, m), want) || impl.OnceFound(signed, 1, m) != public {
			t.Errorf("a signature of %s changes with its key or with another one", m)
		}
	}
}

func TestChainsAmongMany(t *testing.T) {
	var callers sync.WaitGroup
	keys := impl.OnceKey("among many", 5)
	for caller := range 8 {
		callers.Go(func() {
			for n := range 50 {
				m := fmt.Sprint(caller, " ", n)
				signed := impl.OnceSign(keys, caller, m)
				if !slices.Equal(signed, modelOnceSign(keys, caller, m)) || impl.OnceFound(signed, caller, m) != modelOncePublic(keys, caller) {
					t.Error("a signature among many is another one")
				}
			}
		})
	}
	callers.Wait()
}
