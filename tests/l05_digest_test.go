package tests

import (
	"crypto/sha256"
	"encoding"
	"encoding/binary"
	"encoding/hex"
	"fmt"
	"hash"
	"math"
	"math/big"
	"math/rand/v2"
	"strings"
	"testing"

	"loop.example/g00186/impl"
)

const (
	digestMark  = "sha\x03"
	digestBlock = 64
)

func digestByLibrary(text string) string {
	sum := sha256.Sum256([]byte(text))
	return string(sum[:])
}

// libraryAt is the library's digest, set to a hasher that is right.
func libraryAt(h impl.Hasher) hash.Hash {
	bytes := []byte(digestMark + h.State + h.Rest + strings.Repeat("\x00", digestBlock-len(h.Rest)))
	library := sha256.New()
	err := library.(encoding.BinaryUnmarshaler).UnmarshalBinary(binary.BigEndian.AppendUint64(bytes, uint64(h.Count)))
	if err != nil {
		panic(err)
	}
	return library
}

func modelHashMore(h impl.Hasher, text string) impl.Hasher {
	library := libraryAt(h)
	library.Write([]byte(text))
	bytes, err := library.(encoding.BinaryMarshaler).MarshalBinary()
	if err != nil {
		panic(err)
	}
	state := string(bytes[len(digestMark):])
	count := h.Count + len(text)
	return impl.Hasher{State: state[:32], Rest: state[32 : 32+count%digestBlock], Count: count}
}

func modelHashEnd(h impl.Hasher) string {
	return string(libraryAt(h).Sum(nil))
}

func tellHasher(h impl.Hasher) string {
	return fmt.Sprintf("{State %x, Rest of %d bytes, Count %d}", h.State, len(h.Rest), h.Count)
}

// hasherAt is a right hasher of so many bytes, whose State no text is known for.
func hasherAt(count int) impl.Hasher {
	return impl.Hasher{State: textOf(32), Rest: textOf(count % digestBlock), Count: count}
}

func hashParts(parts ...string) impl.Hasher {
	h := impl.HasherNew()
	for _, part := range parts {
		h = impl.HashMore(h, part)
	}
	return h
}

func expectRight(t *testing.T, h impl.Hasher) {
	t.Helper()
	if !impl.HasherOk(h) {
		t.Errorf("HasherOk of %s = false", tellHasher(h))
	}
}

// expectMore holds HashMore of a right hasher against the library.
func expectMore(t *testing.T, h impl.Hasher, text string) impl.Hasher {
	t.Helper()
	got := impl.HashMore(h, text)
	if want := modelHashMore(h, text); got != want {
		t.Errorf("HashMore of %s and %d bytes = %s, want %s", tellHasher(h), len(text), tellHasher(got), tellHasher(want))
	}
	expectRight(t, got)
	expectOwnHasher(t, got, h, text)
	return got
}

func expectOwnHasher(t *testing.T, got, h impl.Hasher, text string) {
	t.Helper()
	for _, mine := range []string{got.State, got.Rest} {
		for _, other := range []string{h.State, h.Rest, text} {
			if sharesMemory(mine, other) {
				t.Errorf("HashMore of %s and %d bytes shares memory with an argument", tellHasher(h), len(text))
			}
		}
	}
	if sharesMemory(got.State, got.Rest) {
		t.Errorf("HashMore of %s and %d bytes: State and Rest share memory", tellHasher(h), len(text))
	}
}

func expectEnd(t *testing.T, what string, h impl.Hasher, want string) {
	t.Helper()
	if got := impl.HashEnd(h); got != want {
		t.Errorf("HashEnd of %s = %x, want %x", what, got, want)
	}
}

func blockEdges() []int {
	return []int{0, 1, 2, 54, 55, 56, 57, 62, 63, 64, 65, 118, 119, 120, 121, 127, 128, 129, 183, 184, 191, 192, 193}
}

// textsOfBlocks are texts of lengths around the ends of blocks, of several kinds of bytes.
func textsOfBlocks() []string {
	var list []string
	for _, n := range append(blockEdges(), impl.MaxText-1, impl.MaxText, impl.MaxText+1) {
		list = append(list, textOf(n), strings.Repeat("\x00", n), strings.Repeat("\xff", n), strings.Repeat("\x80", n))
	}
	return list
}

func TestKnownDigests(t *testing.T) {
	for text, want := range map[string]string{
		"":    "e3b0c44298fc1c149afbf4c8996fb92427ae41e4649b934ca495991b7852b855",
		"abc": "ba7816bf8f01cfea414140de5dae2223b00361a396177a9cb410ff61f20015ad",
		"abcdbcdecdefdefgefghfghighijhijkijkljklmklmnlmnomnopnopq":                                                         "248d6a61d20638b8e5c026930c3e6039a33ce45964ff2167f6ecedd419db06c1",
		"abcdefghbcdefghicdefghijdefghijkefghijklfghijklmghijklmnhijklmnoijklmnopjklmnopqklmnopqrlmnopqrsmnopqrstnopqrstu": "cf5b16a778af8380036ce59e7b0492370b249b11e8f07a51afac45037afee9d1",
		strings.Repeat("a", 1000000): "cdc76e5c9914fb9281a1c7e284d73e67f1809a48a497200e046d39ccc7112cd0",
	} {
		if got := hex.EncodeToString([]byte(impl.DigestOf(text))); got != want {
			t.Errorf("DigestOf of %d bytes = %s, want %s", len(text), got, want)
		}
		expectEnd(t, fmt.Sprintf("%d bytes", len(text)), hashParts(text), impl.DigestOf(text))
	}
}

func TestDigestsOfSizes(t *testing.T) {
	for n := range 400 {
		if got, want := impl.DigestOf(textOf(n)), digestByLibrary(textOf(n)); got != want {
			t.Errorf("DigestOf of %d bytes = %x, want %x", n, got, want)
		}
	}
	for _, text := range append(textsOfBlocks(), textsAround()...) {
		if got, want := impl.DigestOf(text), digestByLibrary(text); got != want {
			t.Errorf("DigestOf of %d bytes = %x, want %x", len(text), got, want)
		}
	}
}

func TestDigestsOfEachBit(t *testing.T) {
	for _, n := range []int{1, 55, 56, 64, 120} {
		bytes := make([]byte, n)
		for bit := range 8 * n {
			bytes[bit/8] = 1 << (bit % 8)
			if got, want := impl.DigestOf(string(bytes)), digestByLibrary(string(bytes)); got != want {
				t.Errorf("DigestOf of %d bytes with bit %d = %x, want %x", n, bit, got, want)
			}
			bytes[bit/8] = 0
		}
	}
}

// The text's length in bits needs more than its lowest four bytes only above 500 million bytes; a Count comes there.
func TestLengthsInEightBytes(t *testing.T) {
	for _, bytes := range []int{1<<29 - 1, 1 << 29, 1<<29 + 1, 1 << 28, 1<<26 - 1, impl.MaxNumber - 1, impl.MaxNumber} {
		h := hasherAt(bytes)
		expectRight(t, h)
		expectEnd(t, tellHasher(h), h, modelHashEnd(h))
	}
}

// By the chapter's words: the first 32 bits of the fractions of the square roots of the first eight primes.
func TestHasherNew(t *testing.T) {
	var state []byte
	for _, prime := range []int64{2, 3, 5, 7, 11, 13, 17, 19} {
		root := new(big.Int).Sqrt(new(big.Int).Lsh(big.NewInt(prime), 64))
		state = binary.BigEndian.AppendUint32(state, uint32(root.Uint64()))
	}
	h := impl.HasherNew()
	if want := (impl.Hasher{State: string(state)}); h != want {
		t.Errorf("HasherNew = %s, want %s", tellHasher(h), tellHasher(want))
	}
	expectRight(t, h)
	expectEnd(t, "nothing", h, digestByLibrary(""))
}

func TestTextsInOnePart(t *testing.T) {
	for _, text := range textsOfBlocks() {
		h := expectMore(t, impl.HasherNew(), text)
		expectEnd(t, fmt.Sprintf("%d bytes", len(text)), h, digestByLibrary(text))
	}
}

func TestTextsInTwoParts(t *testing.T) {
	for _, n := range blockEdges() {
		text := textOf(n)
		want := digestByLibrary(text)
		for cut := range n + 1 {
			h := expectMore(t, expectMore(t, impl.HasherNew(), text[:cut]), text[cut:])
			expectEnd(t, fmt.Sprintf("%d bytes, cut at %d", n, cut), h, want)
		}
	}
}

func TestTextsInThreeParts(t *testing.T) {
	for _, n := range []int{0, 1, 55, 56, 63, 64, 65, 120, 128, 129, 193} {
		text := textOf(n)
		want := digestByLibrary(text)
		for first := range n + 1 {
			for second := first; second <= n; second++ {
				h := hashParts(text[:first], text[first:second], text[second:])
				expectEnd(t, fmt.Sprintf("%d bytes, cut at %d and %d", n, first, second), h, want)
			}
		}
	}
}

func TestALongTextInParts(t *testing.T) {
	text := textOf(impl.MaxText)
	want := digestByLibrary(text)
	for cut := 0; cut <= len(text); cut += 97 {
		expectEnd(t, fmt.Sprintf("MaxText bytes, cut at %d", cut), hashParts(text[:cut], text[cut:]), want)
	}
	for _, size := range []int{1, 3, 55, 63, 64, 65, 127, 128, 129, 4096} {
		h := impl.HasherNew()
		for at := 0; at < len(text); at += size {
			h = expectMore(t, h, text[at:min(at+size, len(text))])
		}
		expectEnd(t, fmt.Sprintf("MaxText bytes by %d", size), h, want)
	}
}

func TestPartsOfNothing(t *testing.T) {
	for _, n := range append(blockEdges(), impl.MaxNumber-1, impl.MaxNumber) {
		h := hasherAt(n)
		for range 3 {
			h = expectMore(t, h, "")
		}
		if h != hasherAt(n) {
			t.Errorf("HashMore of %s and nothing changed it to %s", tellHasher(hasherAt(n)), tellHasher(h))
		}
	}
	text := textOf(200)
	expectEnd(t, "parts of nothing between", hashParts("", text[:64], "", "", text[64:65], "", text[65:], ""), digestByLibrary(text))
}

// Cut at the ends of blocks, with as much as fills a block that was begun among the parts.
func TestPartsOfWholeBlocks(t *testing.T) {
	for rest := range digestBlock {
		for _, blocks := range []int{1, 2, 3} {
			parts := []string{textOf(rest), strings.Repeat("z", blocks*digestBlock), textOf(digestBlock - rest), strings.Repeat("\x00", digestBlock)}
			h := impl.HasherNew()
			for _, part := range parts {
				h = expectMore(t, h, part)
			}
			expectEnd(t, fmt.Sprintf("%d bytes and %d blocks", rest, blocks), h, digestByLibrary(strings.Join(parts, "")))
		}
	}
}

// HashEnd leaves nothing behind: more may come after it, and two ways from one hasher don't touch each other.
func TestEndsOnTheWay(t *testing.T) {
	text := textOf(300)
	h := impl.HasherNew()
	for i := range len(text) {
		expectEnd(t, fmt.Sprintf("the first %d bytes", i), h, digestByLibrary(text[:i]))
		expectEnd(t, fmt.Sprintf("the first %d bytes, again", i), h, digestByLibrary(text[:i]))
		one, other := impl.HashMore(h, "\x00"), impl.HashMore(h, "one and the other")
		expectEnd(t, "one way", one, digestByLibrary(text[:i]+"\x00"))
		expectEnd(t, "the other way", other, digestByLibrary(text[:i]+"one and the other"))
		h = impl.HashMore(h, text[i:i+1])
	}
}

func rightHashers() []impl.Hasher {
	list := []impl.Hasher{impl.HasherNew(), {State: strings.Repeat("\x00", 32)}, {State: strings.Repeat("\xff", 32)}}
	for _, count := range append(blockEdges(), 1000, 1<<29, impl.MaxNumber-impl.MaxText, impl.MaxNumber-65, impl.MaxNumber-1, impl.MaxNumber) {
		list = append(list, hasherAt(count))
	}
	return list
}

func wrongHashers() []impl.Hasher {
	state := textOf(32)
	list := []impl.Hasher{{}, {Count: 64}, {State: state, Rest: textOf(64)}, {State: state, Rest: textOf(64), Count: 64}, {State: state, Rest: textOf(128), Count: 128}}
	for _, size := range []int{0, 1, 16, 28, 31, 33, 64, 65} {
		list = append(list, impl.Hasher{State: textOf(size)}, impl.Hasher{State: textOf(size), Rest: "abc", Count: 67})
	}
	for _, count := range []int{-1, -2, -61, -63, -64, -65, -128, math.MinInt64, math.MinInt64 + 1} {
		rest := ((count % digestBlock) + digestBlock) % digestBlock
		list = append(list, impl.Hasher{State: state, Count: count}, impl.Hasher{State: state, Rest: textOf(rest), Count: count}, impl.Hasher{State: state, Rest: textOf(-(count % digestBlock)), Count: count})
	}
	for _, count := range []int{impl.MaxNumber + 1, impl.MaxNumber + 64, 2 * impl.MaxNumber, 1 << 32, math.MaxInt64 - 63, math.MaxInt64} {
		list = append(list, hasherAt(count), impl.Hasher{State: state, Count: count})
	}
	for _, count := range []int{0, 1, 3, 63, 64, 65, 67, 1000, impl.MaxNumber} {
		for size := range 67 {
			if size != count%digestBlock {
				list = append(list, impl.Hasher{State: state, Rest: textOf(size), Count: count})
			}
		}
	}
	return list
}

func TestHasherOk(t *testing.T) {
	for _, h := range rightHashers() {
		expectRight(t, h)
	}
	for _, h := range wrongHashers() {
		if impl.HasherOk(h) {
			t.Errorf("HasherOk of %s = true", tellHasher(h))
		}
	}
}

func TestRightHashersGoOn(t *testing.T) {
	for _, h := range rightHashers() {
		expectEnd(t, tellHasher(h), h, modelHashEnd(h))
		for _, text := range []string{"", "a", textOf(63), textOf(64), textOf(65), textOf(129), textOf(impl.MaxText)} {
			if len(text) <= impl.MaxNumber-h.Count {
				more := expectMore(t, h, text)
				expectEnd(t, tellHasher(more), more, modelHashEnd(more))
			}
		}
	}
}

func expectAsItIs(t *testing.T, h impl.Hasher, text string) {
	t.Helper()
	got := impl.HashMore(h, text)
	if got != h {
		t.Errorf("HashMore of %s and %d bytes = %s, want it as it is", tellHasher(h), len(text), tellHasher(got))
	}
	expectOwnHasher(t, got, h, text)
}

func TestWrongHashersAreLeft(t *testing.T) {
	for _, h := range wrongHashers() {
		for _, text := range []string{"", "a", textOf(61), textOf(64), textOf(200)} {
			expectAsItIs(t, h, text)
		}
		expectEnd(t, tellHasher(h), h, "")
	}
}

func TestCountsAtTheirLimit(t *testing.T) {
	for _, short := range []int{0, 1, 2, 63, 64, 65, 200, impl.MaxText} {
		h := hasherAt(impl.MaxNumber - short)
		for _, most := range []int{short, short - 1} {
			if most >= 0 {
				expectMore(t, h, textOf(most))
			}
		}
		for _, over := range []int{1, 2, 63, 64, 65, impl.MaxText} {
			expectAsItIs(t, h, textOf(short+over))
		}
	}
}

func TestDigestsAreTheirOwnMemory(t *testing.T) {
	for _, n := range append(blockEdges(), 31, 32, 33) {
		text := textOf(n)
		if sharesMemory(impl.DigestOf(text), text) {
			t.Errorf("DigestOf of %d bytes shares its argument's memory", n)
		}
		h := hasherAt(n)
		if end := impl.HashEnd(h); sharesMemory(end, h.State) || sharesMemory(end, h.Rest) {
			t.Errorf("HashEnd of %s shares its argument's memory", tellHasher(h))
		}
	}
	if sharesMemory(impl.HasherNew().State, impl.HasherNew().State) {
		t.Error("two answers of HasherNew share memory")
	}
}

func drawText(draw *rand.Rand) string {
	bytes := make([]byte, []int{draw.IntN(4), draw.IntN(70), digestBlock * draw.IntN(4), draw.IntN(700)}[draw.IntN(4)])
	for i := range bytes {
		bytes[i] = byte(draw.Uint32())
	}
	return string(bytes)
}

func TestDrawnParts(t *testing.T) {
	draw := rand.New(rand.NewPCG(5, 64))
	for range 1000 {
		h, whole := impl.HasherNew(), ""
		for range draw.IntN(9) {
			part := drawText(draw)
			h = expectMore(t, h, part)
			whole += part
		}
		expectEnd(t, fmt.Sprintf("%d drawn bytes", len(whole)), h, digestByLibrary(whole))
		if got := impl.DigestOf(whole); got != digestByLibrary(whole) {
			t.Errorf("DigestOf of %d drawn bytes = %x", len(whole), got)
		}
	}
}

// Whatever comes, a right hasher stays right, and a wrong one stays as it is.
func TestDrawnHashers(t *testing.T) {
	draw := rand.New(rand.NewPCG(6, 64))
	for range 2000 {
		count := []int{draw.IntN(300), draw.IntN(impl.MaxNumber), impl.MaxNumber - draw.IntN(300)}[draw.IntN(3)]
		h := hasherAt(count)
		for range 1 + draw.IntN(4) {
			text := drawText(draw)
			if len(text) > impl.MaxNumber-h.Count {
				expectAsItIs(t, h, text)
				continue
			}
			h = expectMore(t, h, text)
		}
		expectRight(t, h)
		expectEnd(t, tellHasher(h), h, modelHashEnd(h))
	}
}
