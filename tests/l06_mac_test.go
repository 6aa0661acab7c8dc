package tests

import (
	"crypto/hmac"
	"crypto/sha256"
	"encoding/hex"
	"math"
	"math/rand/v2"
	"strings"
	"testing"

	"loop.example/g00186/impl"
)

const (
	macSize      = 32
	mostExpanded = 8160
)

func macByLibrary(key, text string) string {
	sum := hmac.New(sha256.New, []byte(key))
	sum.Write([]byte(text))
	return string(sum.Sum(nil))
}

// modelExpand is all that a key and an info can be expanded to.
func modelExpand(key, info string) string {
	all, last := "", ""
	for i := 1; i <= mostExpanded/macSize; i++ {
		last = macByLibrary(key, last+info+string([]byte{byte(i)}))
		all += last
	}
	return all
}

func bytesOf(t *testing.T, figures string) string {
	t.Helper()
	text, err := hex.DecodeString(figures)
	if err != nil {
		t.Fatal(err)
	}
	return string(text)
}

func keySizes() []int {
	return []int{0, 1, 2, 31, 32, 33, 62, 63, 64, 65, 66, 96, 127, 128, 129, 200, impl.MaxText}
}

func keysAround() []string {
	var list []string
	for _, n := range keySizes() {
		list = append(list, textOf(n), strings.Repeat("\xff", n), strings.Repeat("\x5c", n), strings.Repeat("\x36", n))
	}
	return list
}

func infosAround() []string {
	return []string{"", "\x00", "\x01", "info", textOf(31), textOf(32), textOf(64), textOf(300)}
}

func expandSizes() []int {
	return []int{0, 1, 2, 31, 32, 33, 63, 64, 65, 95, 96, 97, 1000, 4095, 4096, 4097, 8127, 8128, 8129, 8159, 8160}
}

func expectMac(t *testing.T, key, text string) {
	t.Helper()
	got := impl.MacOf(key, text)
	if want := macByLibrary(key, text); got != want {
		t.Errorf("MacOf of a key of %d bytes and a text of %d = %x, want %x", len(key), len(text), got, want)
	}
	if sharesMemory(got, key) || sharesMemory(got, text) {
		t.Errorf("MacOf of a key of %d bytes and a text of %d shares memory with an argument", len(key), len(text))
	}
}

func expectExpanded(t *testing.T, key, info string, n int, want string) {
	t.Helper()
	got, ok := impl.Expand(key, info, n)
	if got != want || !ok {
		t.Errorf("Expand of a key of %d bytes, an info of %d and %d = %d bytes (%.20x..), %v, want %d (%.20x..), true", len(key), len(info), n, len(got), got, ok, len(want), want)
	}
	if sharesMemory(got, key) || sharesMemory(got, info) {
		t.Errorf("Expand of a key of %d bytes, an info of %d and %d shares memory with an argument", len(key), len(info), n)
	}
}

func expectSame(t *testing.T, a, b string, want bool) {
	t.Helper()
	if got := impl.SameMac(a, b); got != want {
		t.Errorf("SameMac of %d bytes (%.40x) and %d (%.40x) = %v, want %v", len(a), a, len(b), b, got, want)
	}
	if got := impl.SameMac(b, a); got != want {
		t.Errorf("SameMac of %d bytes (%.40x) and %d (%.40x) = %v, want %v", len(b), b, len(a), a, got, want)
	}
}

func TestKnownMacs(t *testing.T) {
	for _, known := range []struct{ key, text, want string }{
		{"", "", "b613679a0814d9ec772f95d778c35fc5ff1697c493715653c6c712144292c5ad"},
		{"key", "The quick brown fox jumps over the lazy dog", "f7bc83f430538424b13298e6aa6fb143ef4d59a14946175997479dbc2d1a3cd8"},
		{strings.Repeat("\x0b", 20), "Hi There", "b0344c61d8db38535ca8afceaf0bf12b881dc200c9833da726e9376c2e32cff7"},
		{"Jefe", "what do ya want for nothing?", "5bdcc146bf60754e6a042426089575c75a003f089d2739839dec58b964ec3843"},
		{strings.Repeat("\xaa", 20), strings.Repeat("\xdd", 50), "773ea91e36800e46854db8ebd09181a72959098b3ef8c122d9635514ced565fe"},
		{"\x01\x02\x03\x04\x05\x06\x07\x08\x09\x0a\x0b\x0c\x0d\x0e\x0f\x10\x11\x12\x13\x14\x15\x16\x17\x18\x19", strings.Repeat("\xcd", 50), "82558a389a443c0ea4cc819899f2083a85f0faa3e578f8077a2e3ff46729665b"},
		{strings.Repeat("\xaa", 131), "Test Using Larger Than Block-Size Key - Hash Key First", "60e431591ee0b67f0d8a26aacbf5b77f8e0bc6213728c5140546040f0ee37f54"},
		{strings.Repeat("\xaa", 131), "This is a test using a larger than block-size key and a larger than block-size data. The key needs to be hashed before being used by the HMAC algorithm.", "9b09ffa71b942fcb27635fbcd5b0e944bfdc63644f0713938a7f51535c3a35e2"},
	} {
		if got := hex.EncodeToString([]byte(impl.MacOf(known.key, known.text))); got != known.want {
			t.Errorf("MacOf(%q, %q) = %s, want %s", known.key, known.text, got, known.want)
		}
	}
}

func TestMacsOfKeys(t *testing.T) {
	for n := range 300 {
		expectMac(t, textOf(n), "a text")
		expectMac(t, strings.Repeat("\x00", n), textOf(64))
	}
	for _, key := range keysAround() {
		for _, text := range []string{"", "a text", textOf(64)} {
			expectMac(t, key, text)
		}
	}
}

// By the chapter's words: a long key counts as its digest, and a short one as itself with bytes 0 behind it.
func TestKeysThatAreAlike(t *testing.T) {
	for _, n := range keySizes() {
		key := textOf(n)
		if byDigest := impl.MacOf(impl.DigestOf(key), "a text"); (impl.MacOf(key, "a text") == byDigest) != (n > 64) {
			t.Errorf("a key of %d bytes has the sum of its digest as a key: %v, want %v", n, n <= 64, n > 64)
		}
		filled := key + strings.Repeat("\x00", max(0, 64-n))
		if n <= 64 && impl.MacOf(filled, "a text") != impl.MacOf(key, "a text") {
			t.Errorf("a key of %d bytes has another sum when it is filled with bytes 0", n)
		}
		if n >= 64 && impl.MacOf(key+"\x00", "a text") == impl.MacOf(key, "a text") {
			t.Errorf("a key of %d bytes has the sum of the key that has a byte 0 more", n)
		}
	}
}

func TestMacsOfTexts(t *testing.T) {
	for n := range 300 {
		expectMac(t, "a key", textOf(n))
	}
	for _, text := range append(textsOfBlocks(), textsAround()...) {
		for _, key := range []string{"", "a key", textOf(64), textOf(65)} {
			expectMac(t, key, text)
		}
	}
}

func TestMacsOfEachBit(t *testing.T) {
	for _, n := range []int{1, 32, 64, 65} {
		bytes := make([]byte, n)
		for bit := range 8 * n {
			bytes[bit/8] = 1 << (bit % 8)
			expectMac(t, string(bytes), "a text")
			expectMac(t, "a key", string(bytes))
			bytes[bit/8] = 0
		}
	}
}

func TestKnownExpansions(t *testing.T) {
	for _, known := range []struct{ key, info, want string }{
		{"077709362c2e32df0ddc3f0dc47bba6390b6c73bb50f9c3122ec844ad7c2b3e5", "f0f1f2f3f4f5f6f7f8f9",
			"3cb25f25faacd57a90434f64d0362f2a2d2d0a90cf1a5a4c5db02d56ecc4c5bf34007208d5b887185865"},
		{"06a6b88c5853361a06104c9ceb35b45cef760014904671014a193f40c15fc244",
			"b0b1b2b3b4b5b6b7b8b9babbbcbdbebfc0c1c2c3c4c5c6c7c8c9cacbcccdcecfd0d1d2d3d4d5d6d7d8d9dadbdcdddedfe0e1e2e3e4e5e6e7e8e9eaebecedeeeff0f1f2f3f4f5f6f7f8f9fafbfcfdfeff",
			"b11e398dc80327a1c8e7f78c596a49344f012eda2d4efad8a050cc4c19afa97c59045a99cac7827271cb41c65e590e09da3275600c2f09b8367793a9aca3db71cc30c58179ec3e87c14c01d5c1f3434f1d87"},
		{"19ef24a32c717b167f33a91d6f648bdf96596776afdb6377ac434c1c293ccb04", "",
			"8da4e775a563c18f715f802a063c5a31b8a11f5c5ee1879ec3454e5f3c738d2d9d201395faa4b61a96c8"},
	} {
		want := bytesOf(t, known.want)
		expectExpanded(t, bytesOf(t, known.key), bytesOf(t, known.info), len(want), want)
	}
}

func TestExpansions(t *testing.T) {
	for _, key := range []string{"", "k", textOf(32), textOf(64), textOf(65), textOf(200)} {
		for _, info := range infosAround() {
			all := modelExpand(key, info)
			for _, n := range expandSizes() {
				expectExpanded(t, key, info, n, all[:n])
			}
		}
	}
}

func TestExpansionsOfEverySize(t *testing.T) {
	all := modelExpand("k", "i")
	for n := 0; n <= mostExpanded; n += 1 + n/200 {
		expectExpanded(t, "k", "i", n, all[:n])
	}
}

func TestLongInfos(t *testing.T) {
	for _, info := range []string{textOf(impl.MaxText), strings.Repeat("\x00", impl.MaxText+1)} {
		all := modelExpand("k", info)
		for _, n := range []int{0, 1, 32, 33, mostExpanded} {
			expectExpanded(t, "k", info, n, all[:n])
		}
	}
}

// Promise 6, of the program's own answers alone.
func TestLongerExpansionsBeginWithShorterOnes(t *testing.T) {
	for _, info := range []string{"", "i", textOf(300)} {
		for _, key := range []string{"", "k", textOf(129)} {
			var shorter string
			for _, n := range expandSizes() {
				longer, ok := impl.Expand(key, info, n)
				if !ok || len(longer) != n || !strings.HasPrefix(longer, shorter) {
					t.Errorf("Expand of %d (%d bytes, %v) does not begin with that of %d", n, len(longer), ok, len(shorter))
				}
				shorter = longer
			}
		}
	}
}

// By the chapter's words: each 32 bytes are the sum of those ahead of them, the info and their number.
func TestStepsOfAnExpansion(t *testing.T) {
	all, ok := impl.Expand("k", "info", mostExpanded)
	if !ok || len(all) != mostExpanded {
		t.Fatalf("Expand of %d = %d bytes, %v", mostExpanded, len(all), ok)
	}
	last := ""
	for i := range mostExpanded / macSize {
		step := all[i*macSize : (i+1)*macSize]
		if want := impl.MacOf("k", last+"info"+string([]byte{byte(i + 1)})); step != want {
			t.Errorf("t(%d) = %x, want %x", i+1, step, want)
		}
		last = step
	}
}

func TestExpansionsThatAreRefused(t *testing.T) {
	for _, n := range []int{-1, -2, -32, -8160, math.MinInt64, math.MinInt64 + 1, 8161, 8162, 8192, 20000, 1 << 32, math.MaxInt64 - 31, math.MaxInt64} {
		for _, key := range []string{"", "k", textOf(200)} {
			if got, ok := impl.Expand(key, "i", n); got != "" || ok {
				t.Errorf("Expand of %d = %d bytes, %v, want none, false", n, len(got), ok)
			}
		}
	}
}

func TestSameMac(t *testing.T) {
	for _, n := range []int{0, 1, 2, 3, 31, 32, 33, 64, 257, impl.MaxText} {
		text := textOf(n)
		expectSame(t, text, strings.Clone(text), true)
		expectSame(t, text, text, true)
		expectSame(t, text, text+"\x00", false)
		expectSame(t, text, "\x00"+text, false)
		if n > 0 {
			expectSame(t, text, text[:n-1], false)
			expectSame(t, text, "", false)
		}
	}
}

func TestMacsThatDifferInABit(t *testing.T) {
	for _, n := range []int{1, 2, 3, 32, 33, 64} {
		for _, text := range []string{textOf(n), strings.Repeat("\x00", n), strings.Repeat("\xff", n)} {
			for bit := range 8 * n {
				turned := []byte(text)
				turned[bit/8] ^= 1 << (bit % 8)
				expectSame(t, text, string(turned), false)
			}
		}
	}
}

// Two bytes that differ in the same bits, or are changed for one another, must not make up for one another.
func TestMacsThatDifferTwice(t *testing.T) {
	mac := impl.MacOf("k", "a text")
	for first := range mac {
		for second := first + 1; second < len(mac); second++ {
			turned := []byte(mac)
			turned[first] ^= 0x81
			turned[second] ^= 0x81
			expectSame(t, mac, string(turned), false)
			changed := []byte(mac)
			changed[first], changed[second] = changed[second], changed[first]
			expectSame(t, mac, string(changed), mac[first] == mac[second])
		}
	}
}

// Texts of unlike lengths that would be alike if the shorter one were filled or gone through again.
func TestMacsOfUnlikeLengths(t *testing.T) {
	for _, pair := range [][2]string{{"", "\x00"}, {"", "a"}, {"a", "aa"}, {"a", "a\x00"}, {"\x00", "\x00\x00"}, {"", textOf(32)}, {textOf(32), textOf(32) + textOf(32)}, {textOf(31), textOf(32)}, {strings.Repeat("\x00", 32), strings.Repeat("\x00", 32+256)}} {
		expectSame(t, pair[0], pair[1], false)
	}
}

func TestDrawnMacs(t *testing.T) {
	draw := rand.New(rand.NewPCG(6, 6))
	for range 500 {
		key, text := drawText(draw), drawText(draw)
		expectMac(t, key, text)
		expectSame(t, impl.MacOf(key, text), macByLibrary(key, text), true)
		expectSame(t, impl.MacOf(key, text), impl.MacOf(key, text+"\x00"), false)
		n := draw.IntN(200)
		expectExpanded(t, key, text, n, modelExpand(key, text)[:n])
	}
}
