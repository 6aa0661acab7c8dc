package tests

import (
	"crypto/sha3"
	"encoding/binary"
	"encoding/hex"
	"fmt"
	"math"
	"math/bits"
	"math/rand/v2"
	"strings"
	"testing"

	"loop.example/g00186/impl"
)

const (
	laneCount  = 25
	spongeSize = 200
	shakeGives = 168
	mostShaken = 4000
)

func shakeByLibrary(text string, n int) string {
	return string(sha3.SumSHAKE128([]byte(text), n))
}

func sha3ByLibrary(text string) string {
	sum := sha3.Sum256([]byte(text))
	return string(sum[:])
}

// modelRc is the chapter's rc(t).
func modelRc(t int) uint64 {
	register := 1
	for range t {
		register *= 2
		if register >= 256 {
			register = (register - 256) ^ 113
		}
	}
	return uint64(register % 2)
}

func modelRoundNumber(round int) uint64 {
	var number uint64
	for j := range 7 {
		number |= modelRc(j+7*round) << (1<<j - 1)
	}
	return number
}

// modelTurns are the chapter's r(x, y), at x and 5 times y.
func modelTurns() [laneCount]int {
	var turns [laneCount]int
	x, y := 1, 0
	for t := range 24 {
		turns[x+5*y] = (t + 1) * (t + 2) / 2 % 64
		x, y = y, (2*x+3*y)%5
	}
	return turns
}

// modelRound is a round by the chapter's words, each step a state by itself.
func modelRound(a [laneCount]uint64, number uint64) [laneCount]uint64 {
	var c [5]uint64
	var theta, pi, chi [laneCount]uint64
	for i, lane := range a {
		c[i%5] ^= lane
	}
	for i, lane := range a {
		theta[i] = lane ^ c[(i%5+4)%5] ^ bits.RotateLeft64(c[(i%5+1)%5], 1)
	}
	turns := modelTurns()
	for i, lane := range theta {
		x, y := i%5, i/5
		pi[y+5*((2*x+3*y)%5)] = bits.RotateLeft64(lane, turns[i])
	}
	for i, lane := range pi {
		x, row := i%5, i/5*5
		chi[i] = lane ^ (^pi[row+(x+1)%5] & pi[row+(x+2)%5])
	}
	chi[0] ^= number
	return chi
}

func modelPermute(text string) string {
	var state [laneCount]uint64
	for i := range state {
		state[i] = binary.LittleEndian.Uint64([]byte(text[8*i:]))
	}
	for round := range 24 {
		state = modelRound(state, modelRoundNumber(round))
	}
	var list []byte
	for _, lane := range state {
		list = binary.LittleEndian.AppendUint64(list, lane)
	}
	return string(list)
}

// modelStreamNew fills the text as the chapter says, and takes it block by block.
func modelStreamNew(text string) impl.Stream {
	whole := append([]byte(text), 31)
	for len(whole)%shakeGives != 0 {
		whole = append(whole, 0)
	}
	whole[len(whole)-1] ^= 128
	state := make([]byte, spongeSize)
	for at := 0; at < len(whole); at += shakeGives {
		for i := range shakeGives {
			state[i] ^= whole[at+i]
		}
		state = []byte(modelPermute(string(state)))
	}
	return impl.Stream{State: string(state)}
}

// modelTake goes byte by byte.
func modelTake(x impl.Stream, n int) (impl.Stream, string) {
	var list []byte
	for range n {
		if x.At == shakeGives {
			x = impl.Stream{State: modelPermute(x.State)}
		}
		list = append(list, x.State[x.At])
		x.At++
	}
	return x, string(list)
}

func tellStream(x impl.Stream) string {
	return fmt.Sprintf("{State of %d bytes (%.20x..), At %d}", len(x.State), x.State, x.At)
}

func spongeSizes() []int {
	return []int{0, 1, 2, 7, 8, 9, 134, 135, 136, 137, 166, 167, 168, 169, 271, 272, 273, 334, 335, 336, 337, 503, 504, 505}
}

// textsOfSponge are texts of lengths around the ends of both kinds of blocks, of several kinds of bytes.
func textsOfSponge() []string {
	var list []string
	for _, n := range append(spongeSizes(), impl.MaxText, impl.MaxText+1) {
		list = append(list, textOf(n))
		for _, byte := range []string{"\x00", "\x06", "\x1f", "\x80", "\xff"} {
			list = append(list, strings.Repeat(byte, n))
		}
	}
	return list
}

func shakeSizes() []int {
	return []int{0, 1, 2, 31, 32, 33, 166, 167, 168, 169, 170, 335, 336, 337, 504, 505, 1000, 3863, 3864, 3865, 3999, 4000}
}

func sizesThatAreRefused() []int {
	return []int{-1, -2, -168, -4000, math.MinInt64, math.MinInt64 + 1, 4001, 4002, 4032, 8000, 20000, 1 << 32, math.MaxInt64 - 168, math.MaxInt64}
}

func expectPermuted(t *testing.T, text, want string) {
	t.Helper()
	for range 2 {
		got := impl.Permute(text)
		if got != want {
			t.Errorf("Permute of %d bytes (%.20x..) = %x, want %x", len(text), text, got, want)
		}
		if sharesMemory(got, text) {
			t.Errorf("Permute of %d bytes (%.20x..) shares its argument's memory", len(text), text)
		}
	}
}

func expectShake(t *testing.T, text string, n int, want string) {
	t.Helper()
	got, ok := impl.ShakeOf(text, n)
	if got != want || !ok {
		t.Errorf("ShakeOf of %d bytes (%.10x..) and %d = %d bytes (%.20x..), %v, want %d (%.20x..), true", len(text), text, n, len(got), got, ok, len(want), want)
	}
	if sharesMemory(got, text) {
		t.Errorf("ShakeOf of %d bytes and %d shares its argument's memory", len(text), n)
	}
}

func expectSha3(t *testing.T, text, want string) {
	t.Helper()
	got := impl.Sha3Of(text)
	if got != want {
		t.Errorf("Sha3Of of %d bytes (%.10x..) = %x, want %x", len(text), text, got, want)
	}
	if sharesMemory(got, text) {
		t.Errorf("Sha3Of of %d bytes shares its argument's memory", len(text))
	}
}

// expectTake holds a take against what is wanted, and asks that the answer is memory of its own.
func expectTake(t *testing.T, x impl.Stream, n int, want impl.Stream, wantText string) {
	t.Helper()
	got, text := impl.StreamTake(x, n)
	if got != want || text != wantText {
		t.Errorf("StreamTake of %s and %d = %s and %d bytes (%.20x..), want %s and %d (%.20x..)", tellStream(x), n, tellStream(got), len(text), text, tellStream(want), len(wantText), wantText)
	}
	if sharesMemory(got.State, x.State) || sharesMemory(text, x.State) || sharesMemory(text, got.State) {
		t.Errorf("StreamTake of %s and %d shares memory", tellStream(x), n)
	}
}

func expectTaken(t *testing.T, x impl.Stream, n int) {
	t.Helper()
	want, text := modelTake(x, n)
	expectTake(t, x, n, want, text)
}

func expectNotTaken(t *testing.T, x impl.Stream, n int) {
	t.Helper()
	expectTake(t, x, n, x, "")
}

// takeParts takes parts of these sizes, one behind the other.
func takeParts(seed string, sizes ...int) string {
	x, whole := impl.StreamNew(seed), ""
	for _, n := range sizes {
		var part string
		x, part = impl.StreamTake(x, n)
		whole += part
	}
	return whole
}

func expectParts(t *testing.T, seed string, sizes ...int) {
	t.Helper()
	sum := 0
	for _, n := range sizes {
		sum += n
	}
	if got, want := takeParts(seed, sizes...), shakeByLibrary(seed, sum); got != want {
		t.Errorf("a stream of %d bytes taken by %v = %d bytes (%.20x..), want %d (%.20x..)", len(seed), sizes, len(got), got, len(want), want)
	}
	if sum <= mostShaken {
		expectShake(t, seed, sum, takeParts(seed, sizes...))
	}
}

func TestKnownPermutations(t *testing.T) {
	once := "e7dde140798f25f18a47c033f9ccd584eea95aa61e2698d54d49806f304715bd57d05362054e288bd46f8e7f2da497ffc44746a4a0e5fe90762e19d60cda5b8c9c05191bf7a630ad64fc8fd0b75a933035d617233fa95aeb0321710d26e6a6a95f55cfdb167ca58126c84703cd31b8439f56a5111a2ff20161aed9215a63e505f270c98cf2febe641166c47b95703661cb0ed04f555a7cb8c832cf1c8ae83e8c14263aae22790c94e409c5a224f94118c26504e72635f5163ba1307fe944f67549a2ec5c7bfff1ea"
	twice := "3ccb6ef94d955c2d6db55770d02c336a6c6bd770128d3d0994d06955b2d9208a56f1e7e5994f9c4f38fb65daa2b957f90daf7512ae3d7785f710d8c347f2f4fa59879af7e69e1b1f25b498ee0fccfee4a168ceb9b661ce684f978fbac466eadef5b1af6e833dc433d9db1927045406e065128309f0a9f87c434717bfa64954fd404b99d833addd9774e70b5dfcd5ea483cb0b755eec8b8e3e9429e646e22a0917bddbae729310e90e8cca3fac59e2a20b63d1c4e4602345b59104ca4624e9f605cbf8f6ad26cd020"
	expectPermuted(t, strings.Repeat("\x00", spongeSize), bytesOf(t, once))
	expectPermuted(t, bytesOf(t, once), bytesOf(t, twice))
}

func TestPermutationsOfEachBit(t *testing.T) {
	text := make([]byte, spongeSize)
	for bit := range 8 * spongeSize {
		text[bit/8] = 1 << (bit % 8)
		expectPermuted(t, string(text), modelPermute(string(text)))
		text[bit/8] = 0
	}
}

func TestPermutationsOfBytes(t *testing.T) {
	for byte := range 256 {
		text := strings.Repeat(string([]uint8{uint8(byte)}), spongeSize)
		expectPermuted(t, text, modelPermute(text))
	}
	expectPermuted(t, textOf(spongeSize), modelPermute(textOf(spongeSize)))
}

func TestTextsThatAreNotPermuted(t *testing.T) {
	for n := range 420 {
		if n != spongeSize {
			expectPermuted(t, textOf(n), textOf(n))
			expectPermuted(t, strings.Repeat("\x00", n), strings.Repeat("\x00", n))
		}
	}
	for _, text := range textsAround() {
		if len(text) != spongeSize {
			expectPermuted(t, text, text)
		}
	}
}

func TestKnownShakes(t *testing.T) {
	for text, want := range map[string]string{
		"": "7f9c2ba4e88f827d616045507605853ed73b8093f6efbc88eb1a6eacfa66ef26",
		"The quick brown fox jumps over the lazy dog": "f4202e3c5852f9182a0430fd8144f0a74b95e7417ecae17db0f8cfeed0e3e66e",
		"The quick brown fox jumps over the lazy dof": "853f4538be0db9621a6cea659a06c1107b1f83f02b13d18297bd39d7411cf10c",
		"abc":                       "5881092dd818bf5cf8a3ddb793fbcba74097d5c526a6d35f97b83351940f2cc8",
		strings.Repeat("\xa3", 200): "131ab8d2b594946b9c81333f9bb6e0ce75c3b93104fa3469d3917457385da037",
	} {
		expectShake(t, text, 32, bytesOf(t, want))
	}
}

func TestKnownSha3s(t *testing.T) {
	for text, want := range map[string]string{
		"":    "a7ffc6f8bf1ed76651c14756a061d662f580ff4de43b49fa82d80a4b80f8434a",
		"abc": "3a985da74fe225b2045c172d6bd390bd855f086e3e9d525b46bfe24511431532",
		"abcdbcdecdefdefgefghfghighijhijkijkljklmklmnlmnomnopnopq":                                                         "41c0dba2a9d6240849100376a8235e2c82e1b9998a999e21db32dd97496d3376",
		"abcdefghbcdefghicdefghijdefghijkefghijklfghijklmghijklmnhijklmnoijklmnopjklmnopqklmnopqrlmnopqrsmnopqrstnopqrstu": "916f6061fe879741ca6469b43971dfdb28b1a32dc36cb3254e812be27aad1d18",
		strings.Repeat("\xa3", 200):  "79f38adec5c20307a98ef76e8324afbfd46cfd81b22e3973c65fa1bd9de31787",
		strings.Repeat("a", 1000000): "5c8875ae474a3634ba4fd55ec85bffd661f32aca75c6d699d0cdcb6c115891c1",
	} {
		if got := hex.EncodeToString([]byte(impl.Sha3Of(text))); got != want {
			t.Errorf("Sha3Of of %d bytes = %s, want %s", len(text), got, want)
		}
	}
}

func TestSha3sOfTexts(t *testing.T) {
	for n := range 700 {
		expectSha3(t, textOf(n), sha3ByLibrary(textOf(n)))
	}
	for _, text := range append(textsOfSponge(), textsAround()...) {
		expectSha3(t, text, sha3ByLibrary(text))
	}
}

func TestShakesOfTexts(t *testing.T) {
	for n := range 700 {
		expectShake(t, textOf(n), 64, shakeByLibrary(textOf(n), 64))
	}
	for _, text := range append(textsOfSponge(), textsAround()...) {
		for _, n := range []int{0, 1, 32, shakeGives, shakeGives + 1} {
			expectShake(t, text, n, shakeByLibrary(text, n))
		}
	}
}

// Texts that end where their own last bytes look like a filling must not be taken for one another.
func TestFillingsAreTold(t *testing.T) {
	for _, n := range spongeSizes() {
		text := textOf(n)
		for _, more := range []string{"\x00", "\x1f", "\x06", "\x80", "\x9f", "\x86", "\x1f\x00", "\x1f\x80"} {
			one, _ := impl.ShakeOf(text, 32)
			other, _ := impl.ShakeOf(text+more, 32)
			if one == other || impl.Sha3Of(text) == impl.Sha3Of(text+more) {
				t.Errorf("%d bytes, and %x behind them, answer alike", n, more)
			}
		}
	}
}

func TestShakesOfSizes(t *testing.T) {
	for _, length := range spongeSizes() {
		text := textOf(length)
		all := shakeByLibrary(text, mostShaken)
		for _, n := range shakeSizes() {
			expectShake(t, text, n, all[:n])
		}
	}
	all := shakeByLibrary("a text", mostShaken)
	for n := 0; n <= mostShaken; n += 1 + n/200 {
		expectShake(t, "a text", n, all[:n])
	}
}

func TestLongerShakesBeginWithShorterOnes(t *testing.T) {
	for _, text := range []string{"", "a", textOf(167), textOf(168), textOf(1000)} {
		var shorter string
		for _, n := range shakeSizes() {
			longer, ok := impl.ShakeOf(text, n)
			if !ok || len(longer) != n || !strings.HasPrefix(longer, shorter) {
				t.Errorf("ShakeOf of %d (%d bytes, %v) does not begin with that of %d", n, len(longer), ok, len(shorter))
			}
			shorter = longer
		}
	}
}

func TestShakesThatAreRefused(t *testing.T) {
	for _, n := range sizesThatAreRefused() {
		for _, text := range []string{"", "a", textOf(168), textOf(1000)} {
			if got, ok := impl.ShakeOf(text, n); got != "" || ok {
				t.Errorf("ShakeOf of %d bytes and %d = %d bytes, %v, want none, false", len(text), n, len(got), ok)
			}
		}
	}
}

func TestStreamNew(t *testing.T) {
	for _, seed := range append(textsOfSponge(), textsAround()...) {
		x := impl.StreamNew(seed)
		if want := modelStreamNew(seed); x != want {
			t.Errorf("StreamNew of %d bytes = %s, want %s", len(seed), tellStream(x), tellStream(want))
		}
		if sharesMemory(x.State, seed) || sharesMemory(x.State, impl.StreamNew(seed).State) {
			t.Errorf("StreamNew of %d bytes shares memory", len(seed))
		}
	}
}

// Promise 7: in one part, in two, and in many.
func TestStreamsInOnePart(t *testing.T) {
	for _, length := range spongeSizes() {
		for _, n := range shakeSizes() {
			expectParts(t, textOf(length), n)
			expectTaken(t, impl.StreamNew(textOf(length)), n)
		}
	}
}

func TestStreamsInTwoParts(t *testing.T) {
	for _, seed := range []string{"", "a", textOf(167), textOf(168)} {
		for _, sum := range []int{0, 1, 167, 168, 169, 335, 336, 337, 505} {
			for cut := range sum + 1 {
				expectParts(t, seed, cut, sum-cut)
			}
		}
	}
	for cut := 0; cut <= mostShaken; cut += 37 {
		expectParts(t, "a seed", cut, mostShaken-cut)
	}
}

func TestStreamsInThreeParts(t *testing.T) {
	edges := []int{0, 1, 2, 167, 168, 169, 335, 336, 337}
	for _, first := range edges {
		for _, second := range edges {
			for _, third := range edges {
				expectParts(t, "a seed", first, second, third)
			}
		}
	}
}

func TestStreamsInManyParts(t *testing.T) {
	for _, size := range []int{1, 2, 3, 7, 8, 21, 31, 32, 33, 84, 167, 168, 169, 200, 336, 1000} {
		var sizes []int
		for range mostShaken / size {
			sizes = append(sizes, size)
		}
		expectParts(t, "a seed", sizes...)
		expectParts(t, textOf(336), sizes...)
	}
}

func TestPartsOfNoBytes(t *testing.T) {
	expectParts(t, "a seed", 0, 0, 5, 0, 163, 0, 0, 168, 0, 1, 0)
	for _, at := range []int{0, 1, 84, 167, 168} {
		x := impl.Stream{State: textOf(spongeSize), At: at}
		expectTake(t, x, 0, x, "")
	}
}

func TestPartsThatEndAtABlock(t *testing.T) {
	for first := range shakeGives + 1 {
		expectParts(t, "a seed", first, shakeGives-first, shakeGives, 2*shakeGives, 1)
		expectParts(t, "a seed", shakeGives, first, shakeGives-first, 0, 3*shakeGives)
	}
}

// A stream has no end: it goes on above what one take may give.
func TestLongStreams(t *testing.T) {
	expectParts(t, "a seed", mostShaken, mostShaken, mostShaken, mostShaken, 1, mostShaken)
	expectParts(t, "", 0, 3999, 4000, 1, 3863, 3864, 3865)
}

// Whatever State there is, and wherever it stands.
func TestStreamsAtEveryPlace(t *testing.T) {
	for at := range shakeGives + 1 {
		x := impl.Stream{State: textOf(spongeSize), At: at}
		for _, n := range []int{0, 1, 2, shakeGives - at, shakeGives - at + 1, shakeGives, 2*shakeGives - at, 2*shakeGives - at + 1, mostShaken} {
			expectTaken(t, x, n)
		}
	}
	for _, state := range []string{strings.Repeat("\x00", spongeSize), strings.Repeat("\xff", spongeSize)} {
		for _, at := range []int{0, 1, 167, 168} {
			for _, n := range shakeSizes() {
				expectTaken(t, impl.Stream{State: state, At: at}, n)
			}
		}
	}
}

func wrongStreams() []impl.Stream {
	list := []impl.Stream{{}, {At: 168}, {State: "x"}, {State: "x", At: -1}}
	for _, size := range []int{0, 1, 135, 136, 167, 168, 169, 199, 201, 202, 336, 400, 4000} {
		for _, at := range []int{0, 1, 5, 168} {
			list = append(list, impl.Stream{State: textOf(size), At: at})
		}
	}
	for _, at := range []int{-1, -2, -168, -200, math.MinInt64, math.MinInt64 + 1, 169, 170, 199, 200, 201, 336, 1 << 32, math.MaxInt64 - 4000, math.MaxInt64} {
		list = append(list, impl.Stream{State: textOf(spongeSize), At: at})
	}
	return list
}

func TestWrongStreamsAreLeft(t *testing.T) {
	for _, x := range wrongStreams() {
		for _, n := range append(sizesThatAreRefused(), 0, 1, 167, 168, 169, 4000) {
			expectNotTaken(t, x, n)
		}
	}
}

func TestTakesThatAreRefused(t *testing.T) {
	for _, at := range []int{0, 1, 100, 167, 168} {
		for _, n := range sizesThatAreRefused() {
			expectNotTaken(t, impl.Stream{State: textOf(spongeSize), At: at}, n)
			expectNotTaken(t, impl.Stream{State: impl.StreamNew("a").State, At: at}, n)
		}
	}
}

// A take leaves nothing behind: the same stream gives the same once more, whatever was taken from it.
func TestTakesOnTheWay(t *testing.T) {
	x := impl.StreamNew("a seed")
	all := shakeByLibrary("a seed", 1200)
	for at := range 600 {
		for _, n := range []int{500, 1, 0, 500} {
			if _, got := impl.StreamTake(x, n); got != all[at:at+n] {
				t.Errorf("StreamTake of %d from %d on = %.20x.., want %.20x..", n, at, got, all[at:at+n])
			}
		}
		x, _ = impl.StreamTake(x, 1)
	}
}

func drawState(draw *rand.Rand) string {
	bytes := make([]byte, spongeSize)
	for i := range bytes {
		bytes[i] = byte(draw.Uint32())
	}
	return string(bytes)
}

func drawSize(draw *rand.Rand) int {
	return []int{draw.IntN(4), draw.IntN(shakeGives + 2), shakeGives * draw.IntN(4), draw.IntN(mostShaken + 1)}[draw.IntN(4)]
}

func TestDrawnPermutations(t *testing.T) {
	draw := rand.New(rand.NewPCG(7, 200))
	for range 300 {
		state := drawState(draw)
		expectPermuted(t, state, modelPermute(state))
	}
}

func TestDrawnStreams(t *testing.T) {
	draw := rand.New(rand.NewPCG(7, 168))
	for range 200 {
		seed := drawText(draw)
		var sizes []int
		for range draw.IntN(9) {
			sizes = append(sizes, drawSize(draw))
		}
		expectParts(t, seed, sizes...)
		expectSha3(t, seed, sha3ByLibrary(seed))
		expectTaken(t, impl.Stream{State: drawState(draw), At: draw.IntN(shakeGives + 1)}, drawSize(draw))
	}
}
