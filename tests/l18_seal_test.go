package tests

import (
	"encoding/binary"
	"fmt"
	"math"
	"math/rand/v2"
	"slices"
	"strings"
	"sync"
	"testing"

	"loop.example/g00186/impl"
)

const (
	mostMasked  = 8000
	sealTag     = 16
	mostWrapped = 400
	wrapUnit    = 16
	mostNumber  = 1000000000
)

// modelVar is the library's form of a number, also of one that VarText refuses.
func modelVar(n int) string {
	return string(binary.AppendUvarint(nil, uint64(n)))
}

// masksOf are the first bytes of a mask, of however many the chapter would have, and under any number's bytes.
func masksOf(key, num string, n int) string {
	all := ""
	for i := 0; len(all) < n; i++ {
		all += macByLibrary(key, "m"+num+modelByte(i))
	}
	return all[:n]
}

// lockedUnder is how a text would be locked under any number's bytes, and of any length.
func lockedUnder(key, num, s string) string {
	mask := masksOf(key, num, len(s))
	hidden := []byte(s)
	for i := range hidden {
		hidden[i] ^= mask[i]
	}
	return string(hidden) + macByLibrary(key, "t"+num+string(hidden))[:sealTag]
}

func modelMask(key string, num, n int) (string, bool) {
	if num < 0 || num > mostNumber || n < 0 || n > mostMasked {
		return "", false
	}
	return masksOf(key, modelVar(num), n), true
}

func modelLock(key string, num int, s string) (string, bool) {
	if _, ok := modelMask(key, num, len(s)); !ok {
		return "", false
	}
	return lockedUnder(key, modelVar(num), s), true
}

// modelOpen takes the one text that could be locked so, and locks it.
func modelOpen(key string, num int, text string) (string, bool) {
	if len(text) < sealTag {
		return "", false
	}
	mask, ok := modelMask(key, num, len(text)-sealTag)
	could := []byte(text)[:len(mask)]
	for i := range could {
		could[i] ^= mask[i]
	}
	if locked, _ := modelLock(key, num, string(could)); !ok || locked != text {
		return "", false
	}
	return string(could), true
}

func filledWith(s string, zeros int) string {
	return modelVar(len(s)) + s + strings.Repeat("\x00", zeros)
}

func modelWrapped(key, s string) (string, bool) {
	if len(s) > mostWrapped {
		return "", false
	}
	filled := filledWith(s, 0)
	for len(filled)%wrapUnit != 0 {
		filled += "\x00"
	}
	return modelLock(key, 0, filled)
}

// modelUnwrapped asks of a text of each length that could be wrapped so, whether it is.
func modelUnwrapped(key, text string) (string, bool) {
	filled, _ := modelOpen(key, 0, text)
	for size := range mostWrapped + 1 {
		rest, begins := strings.CutPrefix(filled, modelVar(size))
		if !begins || len(rest) < size {
			continue
		}
		if wrapped, _ := modelWrapped(key, rest[:size]); wrapped == text {
			return rest[:size], true
		}
	}
	return "", false
}

// expectSeal asks twice, and that the answers are those of the model and have memory of their own.
func expectSeal(t *testing.T, what string, ask func(key, text string) (string, bool), want string, there bool, key, text string) (string, bool) {
	t.Helper()
	givenKey, givenText := strings.Clone(key), strings.Clone(text)
	got, ok := ask(givenKey, givenText)
	again, right := ask(givenKey, givenText)
	if got != want || again != want || ok != there || right != there {
		t.Errorf("%s of the key %s and %s = %s, %v, and %s, %v the next time, want %s, %v", what, tellSeed(key), tellSeed(text), tellSeed(got), ok, tellSeed(again), right, tellSeed(want), there)
	}
	if givenKey != key || givenText != text {
		t.Errorf("%s of the key %s and %s writes into an argument", what, tellSeed(key), tellSeed(text))
	}
	expectOwnTexts(t, what, []string{got, again}, givenKey, givenText)
	return got, ok
}

func expectMask(t *testing.T, key string, num, n int) (string, bool) {
	t.Helper()
	ask := func(key, _ string) (string, bool) { return impl.Mask(key, num, n) }
	want, there := modelMask(key, num, n)
	return expectSeal(t, fmt.Sprintf("Mask with number %d and %d bytes", num, n), ask, want, there, key, "")
}

func expectLock(t *testing.T, key string, num int, s string) (string, bool) {
	t.Helper()
	ask := func(key, text string) (string, bool) { return impl.LockText(key, num, text) }
	want, there := modelLock(key, num, s)
	return expectSeal(t, fmt.Sprint("LockText with number ", num), ask, want, there, key, s)
}

func expectOpen(t *testing.T, key string, num int, text string) (string, bool) {
	t.Helper()
	ask := func(key, text string) (string, bool) { return impl.OpenText(key, num, text) }
	want, there := modelOpen(key, num, text)
	return expectSeal(t, fmt.Sprint("OpenText with number ", num), ask, want, there, key, text)
}

func expectWrapped(t *testing.T, key, s string) (string, bool) {
	t.Helper()
	want, there := modelWrapped(key, s)
	return expectSeal(t, "Wrapped", impl.Wrapped, want, there, key, s)
}

func expectUnwrapped(t *testing.T, key, text string) (string, bool) {
	t.Helper()
	want, there := modelUnwrapped(key, text)
	return expectSeal(t, "Unwrapped", impl.Unwrapped, want, there, key, text)
}

func expectNotOpened(t *testing.T, what, key string, num int, text string) {
	t.Helper()
	if s, ok := expectOpen(t, key, num, text); s != "" || ok {
		t.Errorf("%s: of %s, with the key %s and number %d, %s, %v is opened", what, tellSeed(text), tellSeed(key), num, tellSeed(s), ok)
	}
}

func expectNotUnwrapped(t *testing.T, what, key, text string) {
	t.Helper()
	if s, ok := expectUnwrapped(t, key, text); s != "" || ok {
		t.Errorf("%s: of %s, with the key %s, %s, %v is unwrapped", what, tellSeed(text), tellSeed(key), tellSeed(s), ok)
	}
}

// expectLockedIsOpened holds the first half of promise 18, and that what is opened has that LockText.
func expectLockedIsOpened(t *testing.T, key string, num int, s string) string {
	t.Helper()
	text, ok := expectLock(t, key, num, s)
	opened, right := expectOpen(t, key, num, text)
	back, good := impl.LockText(key, num, opened)
	if !ok || !right || !good || len(text) != len(s)+sealTag || opened != s || back != text {
		t.Errorf("%s is locked, with the key %s and number %d, as %s, %v, of which %s, %v is opened", tellSeed(s), tellSeed(key), num, tellSeed(text), ok, tellSeed(opened), right)
	}
	return text
}

// expectWrappedIsUnwrapped holds the second half of promise 18, and that what is unwrapped has that Wrapped.
func expectWrappedIsUnwrapped(t *testing.T, key, s string) string {
	t.Helper()
	text, ok := expectWrapped(t, key, s)
	unwrapped, right := expectUnwrapped(t, key, text)
	back, good := impl.Wrapped(key, unwrapped)
	if !ok || !right || !good || unwrapped != s || back != text {
		t.Errorf("%s is wrapped, with the key %s, as %s, %v, of which %s, %v is unwrapped", tellSeed(s), tellSeed(key), tellSeed(text), ok, tellSeed(unwrapped), right)
	}
	return text
}

// lockedFor are bytes that no function wraps, locked as Wrapped locks.
func lockedFor(t *testing.T, key, filled string) string {
	t.Helper()
	text, ok := impl.LockText(key, 0, filled)
	if !ok || text != lockedUnder(key, "\x00", filled) {
		t.Fatalf("%s is not locked as it should be", tellSeed(filled))
	}
	return text
}

func sealKeys() []string {
	return []string{"", "k", "\xff", "a key", textOf(32), textOf(63), textOf(64), textOf(65), strings.Repeat("\x80", 200)}
}

// otherKeys are unlike a key, also when it is filled with bytes 0, or its digest stands for it.
func otherKeys(key string) []string {
	list := []string{key + "\x01", "\x01" + key, key + key + "k", "another key", textOf(66), strings.Repeat("a", 100)}
	if key != "" {
		list = append(list, "", key[:len(key)-1], turnedByte(key, 0, 1), turnedByte(key, len(key)-1, 128))
	}
	return list
}

func sealNumbers() []int {
	return []int{0, 1, 2, 126, 127, 128, 129, 255, 256, 16383, 16384, 1 << 28, mostNumber - 1, mostNumber}
}

func noNumbers() []int {
	return []int{-1, -2, -127, -128, -129, -256, -mostNumber, -1 << 32, math.MinInt, math.MinInt + 1, mostNumber + 1, mostNumber + 2, mostNumber + 128, 1 << 31, 1 << 32, 1<<32 + 1, 1 << 35, math.MaxInt - 1, math.MaxInt}
}

func maskSizes() []int {
	return []int{0, 1, 2, 15, 16, 17, 31, 32, 33, 63, 64, 65, 4096, 7967, 7968, 7969, 7999, 8000}
}

func noMaskSizes() []int {
	return []int{-1, -2, -32, -8000, -1 << 32, math.MinInt, math.MinInt + 1, 8001, 8002, 8032, 8160, 8192, 20000, 1 << 32, 1<<32 + 32, math.MaxInt - 31, math.MaxInt}
}

// sealTexts are texts of bytes that are alike and that are not; all bytes 0 are locked as the mask itself.
func sealTexts() []string {
	list := []string{"", "\x00", "a", "\xff", "hi", strings.Repeat("\x00", 33), strings.Repeat("\xff", 48)}
	for _, n := range []int{15, 16, 17, 31, 32, 33, 63, 64, 65, 127, 128, 400, 401, 1000} {
		list = append(list, textOf(n))
	}
	return list
}

func greatSealTexts() []string {
	return []string{textOf(7968), textOf(7969), textOf(7999), textOf(8000), strings.Repeat("\x00", 8000), strings.Repeat("\xff", 8000)}
}

// What these tests know comes from another program, which was written down from the chapter by itself.
func TestKnownMasks(t *testing.T) {
	for _, c := range []struct {
		key    string
		num, n int
		want   string
	}{
		{"", 0, 33, "d0522aad4bd876bfa2201ced21c0b4b431cbdf679601a246478ceabb84aabf63a1"},
		{"k", 127, 32, "d9d3cb01d24c0373b22c4bbe6bfd09071fa7def97746255914bdc4ec79aedd0e"},
		{"k", 128, 40, "bacda402c53518ec064331b2c6ca082ac542f8a78864b610db402b830dd1c8c1fbf6f154287beb0e"},
		{strings.Repeat("a", 65), mostNumber, 5, "0799aa786d"},
		{"key", 300, 64, "ae6763f3c1b32b0c9d7ab29395a0eea7c41cb970c75dc132f5240c304e7eb689d11e11fc3126c6e3d5fbac945715bda5d34f401b6ff98ac36bee66538dd6343b"},
		{"key", 300, 0, ""},
	} {
		if got, ok := impl.Mask(c.key, c.num, c.n); !ok || got != bytesOf(t, c.want) {
			t.Errorf("Mask of the key %s with number %d and %d bytes = %x, %v, want %s", tellSeed(c.key), c.num, c.n, got, ok, c.want)
		}
	}
	great, ok := impl.Mask("k", 1, 8000)
	if !ok || digestByLibrary(great) != bytesOf(t, "5ba5e34cc9b17d61a6763bbed9d79e4ddefc6ff6489a09e7eebb44e2b288b2bb") || great[7960:] != bytesOf(t, "5da49f5d68de17184f9dfb904f6de64c6aac5dc0a545b847d105721d47276d47108f352642c0af40") {
		t.Errorf("Mask of 8000 bytes ends in %x, %v", great[max(0, len(great)-40):], ok)
	}
}

func TestKnownLockedTexts(t *testing.T) {
	for _, c := range []struct {
		key     string
		num     int
		s, want string
	}{
		{"", 0, "", "b54a902486347a816a8205412c3571b9"},
		{"k", 3, "hi", "0a49951cdbbe007d1305554e1da091b29d72"},
		{"k", 128, "", "e4e454c9869517d443e1994ac4d0dd9e"},
		{strings.Repeat("a", 65), mostNumber, strings.Repeat("\xff", 33), "f866558792ec533d66fc17bb62641ca27c2677e61070cebb1733ef63c091d11f7cded9fe4756db921b6b12dfa96576eb50"},
		{"key", 127, "a text of thirty-two bytes, so..", "b6427c67b3ceb576441b533b7e35a17402efe1612be4763c4522e26fd37ba2894d96011a12ceab60fcfd7829d4530a1e"},
	} {
		want := bytesOf(t, c.want)
		if got, ok := impl.LockText(c.key, c.num, c.s); !ok || got != want {
			t.Errorf("LockText of the key %s, number %d and %q = %x, %v, want %s", tellSeed(c.key), c.num, c.s, got, ok, c.want)
		}
		if got, ok := impl.OpenText(c.key, c.num, want); !ok || got != c.s {
			t.Errorf("OpenText of the key %s, number %d and %s = %q, %v, want %q", tellSeed(c.key), c.num, c.want, got, ok, c.s)
		}
	}
	great, ok := impl.LockText("k", 5, textOf(8000))
	if !ok || digestByLibrary(great) != bytesOf(t, "efc74a11c688bb3cab04caaf2a2bd230b13f3c1614825c024f416bb36d44ff52") {
		t.Errorf("LockText of 8000 bytes = %s, %v", tellSeed(great), ok)
	}
}

func TestKnownWrappedTexts(t *testing.T) {
	for _, c := range []struct{ key, s, want string }{
		{"", "", "d0522aad4bd876bfa2201ced21c0b4b4c308a1246c239c0e0c00a2793969a244"},
		{"k", "hi", "ccbe5a9a7bf008bba7676e335e294baa77f34ded2145126174eabd3d4d80ccf8"},
		{"k", "fifteen bytes..", "c1b05afc0f956dd5870517473b5a6584efce9856c7ebc6651c6f7c2777b301f4"},
		{"k", "sixteen bytes...", "dea55ae20f956dd5870517473b5a65848825081683e2240928e0a980a0007daaaea41e12400f959752c93ac728d63833"},
		{strings.Repeat("a", 65), strings.Repeat("\x00", 14), "e720809a937b7905b3205f95ebc50fe25207fd8b60b385cbfacb21d1bbed4daf"},
	} {
		want := bytesOf(t, c.want)
		if got, ok := impl.Wrapped(c.key, c.s); !ok || got != want {
			t.Errorf("Wrapped of the key %s and %q = %x, %v, want %s", tellSeed(c.key), c.s, got, ok, c.want)
		}
		if got, ok := impl.Unwrapped(c.key, want); !ok || got != c.s {
			t.Errorf("Unwrapped of the key %s and %s = %q, %v, want %q", tellSeed(c.key), c.want, got, ok, c.s)
		}
	}
	for _, c := range []struct {
		size, length int
		want         string
	}{
		{126, 144, "9739fa87d9db4806e8c468fb4504e559b330f036d985eee6202636c91b045af7"},
		{127, 144, "0e4b17fda84c2c1dd380e4c3166e610938db5b343a571d922fab0253ea05456d"},
		{128, 160, "1af1ea536c856d311558dc9449095d234f4e7f78d7fa967692b34f91e59edb79"},
		{400, 432, "ec0413f5d4cf8440c33094fe761aa374aae123e711ec9299a64f610368a77910"},
	} {
		if got, ok := impl.Wrapped("k", textOf(c.size)); !ok || len(got) != c.length || digestByLibrary(got) != bytesOf(t, c.want) {
			t.Errorf("Wrapped of %d bytes = %s, %v", c.size, tellSeed(got), ok)
		}
	}
}

func TestMasksOfKeysAndNumbers(t *testing.T) {
	for _, key := range sealKeys() {
		for _, num := range sealNumbers() {
			for _, n := range []int{0, 1, 31, 32, 33, 65} {
				if mask, ok := expectMask(t, key, num, n); !ok || len(mask) != n {
					t.Errorf("Mask of the key %s with number %d and %d bytes = %s, %v", tellSeed(key), num, n, tellSeed(mask), ok)
				}
			}
		}
		for i, n := range maskSizes() {
			expectMask(t, key, sealNumbers()[i%len(sealNumbers())], n)
		}
	}
	for _, key := range slices.Concat(keysAround(), greatTexts()) {
		expectMask(t, key, 7, 33)
	}
}

func TestMasksThatAreRefused(t *testing.T) {
	refused := func(key string, num, n int) {
		t.Helper()
		if mask, ok := expectMask(t, key, num, n); mask != "" || ok {
			t.Errorf("Mask of the key %s with number %d and %d bytes = %s, %v", tellSeed(key), num, n, tellSeed(mask), ok)
		}
	}
	for _, key := range []string{"", "k", textOf(65)} {
		for _, num := range noNumbers() {
			for _, n := range slices.Concat([]int{0, 1, 32, 8000}, noMaskSizes()) {
				refused(key, num, n)
			}
		}
		for _, num := range sealNumbers() {
			for _, n := range noMaskSizes() {
				refused(key, num, n)
			}
		}
	}
}

func TestLongerMasksBeginWithShorterOnes(t *testing.T) {
	for _, c := range []struct {
		key string
		num int
	}{{"", 0}, {"k", 128}, {textOf(65), mostNumber}} {
		longest, ok := impl.Mask(c.key, c.num, mostMasked)
		if !ok || len(longest) != mostMasked {
			t.Fatalf("Mask of %d bytes = %d, %v", mostMasked, len(longest), ok)
		}
		for n := 0; n <= mostMasked; n += 1 + n/100 {
			if mask, ok := impl.Mask(c.key, c.num, n); !ok || mask != longest[:n] {
				t.Errorf("Mask of %d bytes does not begin with that of %d, %v", mostMasked, n, ok)
			}
		}
	}
}

// By the chapter's words: each 32 bytes are the sum of an m, the number and a byte that counts them from 0 on.
func TestStepsOfAMask(t *testing.T) {
	for _, num := range []int{0, 127, 128, mostNumber} {
		mask, ok := impl.Mask("k", num, mostMasked)
		text, right := impl.VarText(num)
		if !ok || !right || len(mask) != mostMasked {
			t.Fatalf("Mask of %d bytes with number %d = %d, %v", mostMasked, num, len(mask), ok)
		}
		for i := range mostMasked / macSize {
			if want := impl.MacOf("k", "m"+text+string([]byte{byte(i)})); mask[i*macSize:(i+1)*macSize] != want {
				t.Errorf("number %d: the mask's sum %d is not %x", num, i, want)
			}
		}
	}
}

func TestMasksOfUnlikeKeysAndNumbersAreUnlike(t *testing.T) {
	met := map[string]string{}
	for _, key := range sealKeys() {
		for num := range 300 {
			mask, _ := impl.Mask(key, num, 64)
			told := fmt.Sprintf("the key %s with number %d", tellSeed(key), num)
			for _, half := range []string{mask[:32], mask[32:]} {
				if other, there := met[half]; there {
					t.Errorf("%s has a sum of %s", told, other)
				}
				met[half] = told
			}
		}
	}
}

// Promise 18, of what is locked.
func TestLockedTextsAreOpened(t *testing.T) {
	for _, key := range sealKeys() {
		for _, num := range sealNumbers() {
			for _, s := range sealTexts() {
				expectLockedIsOpened(t, key, num, s)
			}
		}
	}
	for _, key := range keysAround() {
		expectLockedIsOpened(t, key, 3, "")
		expectLockedIsOpened(t, key, 128, "hi")
	}
}

func TestLockedTextsOfEveryLengthAreOpened(t *testing.T) {
	for n := range 600 {
		expectLockedIsOpened(t, "k", n, textOf(n))
		expectLockedIsOpened(t, textOf(n), 0, strings.Repeat("\xff", n))
	}
	for i, s := range greatSealTexts() {
		expectLockedIsOpened(t, "", 0, s)
		expectLockedIsOpened(t, textOf(60+i), sealNumbers()[i], s)
	}
}

func TestDrawnTextsAreLockedAndOpened(t *testing.T) {
	draw := rand.New(rand.NewPCG(18, 1))
	for range 1000 {
		key, num, s := drawText(draw), draw.IntN(1<<(1+draw.IntN(29))), drawText(draw)
		text := expectLockedIsOpened(t, key, num, s)
		expectNotOpened(t, "another number", key, num+1, text)
		expectNotOpened(t, "a byte turned", key, num, turnedByte(text, draw.IntN(len(text)), 1<<draw.IntN(8)))
	}
}

// A text that is empty has a tag of its own for each key and number, and no two numbers of a key lock a text alike.
func TestLockedTextsAreUnlike(t *testing.T) {
	for _, s := range []string{"", "\x00", "hi", textOf(40)} {
		met := map[string]string{}
		for _, key := range sealKeys() {
			for _, num := range sealNumbers() {
				text, ok := impl.LockText(key, num, s)
				told := fmt.Sprintf("the key %s and number %d", tellSeed(key), num)
				if other, there := met[text]; !ok || there {
					t.Errorf("%s is locked alike by %s and by %s, %v", tellSeed(s), told, other, ok)
				}
				met[text] = told
			}
		}
	}
}

// By the chapter's words: of bytes 0 the mask is seen, and the tag is that of what is hidden, not of what is plain.
func TestPartsOfALockedText(t *testing.T) {
	for _, n := range []int{0, 1, 32, 33, 8000} {
		for _, num := range []int{0, 127, 128, mostNumber} {
			zeros, ok := impl.LockText("k", num, strings.Repeat("\x00", n))
			mask, right := impl.Mask("k", num, n)
			if !ok || !right || zeros[:n] != mask {
				t.Errorf("%d bytes 0 are not locked as their mask", n)
			}
			text, _ := impl.LockText("k", num, textOf(n))
			number, _ := impl.VarText(num)
			if text[n:] != impl.MacOf("k", "t"+number+text[:n])[:sealTag] {
				t.Errorf("the tag of %d bytes is %x", n, text[n:])
			}
		}
	}
}

func TestTextsThatAreNotLocked(t *testing.T) {
	refused := func(key string, num int, s string) {
		t.Helper()
		if text, ok := expectLock(t, key, num, s); text != "" || ok {
			t.Errorf("%s is locked, with the key %s and number %d, as %s, %v", tellSeed(s), tellSeed(key), num, tellSeed(text), ok)
		}
	}
	great := slices.Concat([]string{textOf(8001), textOf(8016), strings.Repeat("\x00", 8001), textOf(8192)}, greatTexts())
	for _, key := range []string{"", "k", textOf(65)} {
		for _, num := range noNumbers() {
			for _, s := range []string{"", "a", "hi", textOf(32), textOf(8000), textOf(8001)} {
				refused(key, num, s)
			}
		}
		for _, num := range []int{0, 127, 128, mostNumber} {
			for _, s := range great {
				refused(key, num, s)
			}
		}
	}
}

func TestLockedTextsWithAnotherKey(t *testing.T) {
	for i, key := range sealKeys() {
		for j, s := range sealTexts() {
			num := sealNumbers()[(i+j)%len(sealNumbers())]
			text := expectLockedIsOpened(t, key, num, s)
			for _, other := range otherKeys(key) {
				expectNotOpened(t, "another key", other, num, text)
			}
		}
	}
}

// By chapter 6, a short key is the same sum's key with bytes 0 behind it, and a long one with its digest in its place.
func TestKeysThatLockAlike(t *testing.T) {
	for _, key := range []string{"", "k", textOf(32), textOf(63)} {
		for _, s := range []string{"", "hi", textOf(40)} {
			text := expectLockedIsOpened(t, key, 9, s)
			wrapped := expectWrappedIsUnwrapped(t, key, s)
			for _, alike := range []string{key + "\x00", key + strings.Repeat("\x00", 64-len(key))} {
				opened, ok := expectOpen(t, alike, 9, text)
				unwrapped, right := expectUnwrapped(t, alike, wrapped)
				if !ok || !right || opened != s || unwrapped != s {
					t.Errorf("with a key that is filled with bytes 0 %s, %v and %s, %v come out", tellSeed(opened), ok, tellSeed(unwrapped), right)
				}
			}
			expectNotOpened(t, "filled beyond a block", key+strings.Repeat("\x00", 65-len(key)), 9, text)
		}
	}
	long := textOf(65)
	text := expectLockedIsOpened(t, long, 9, "hi")
	if opened, ok := expectOpen(t, impl.DigestOf(long), 9, text); !ok || opened != "hi" {
		t.Errorf("with the digest of its key %s, %v is opened", tellSeed(opened), ok)
	}
}

func TestLockedTextsWithAnotherNumber(t *testing.T) {
	for _, key := range []string{"", "k", textOf(65)} {
		for _, s := range []string{"", "\x00", "hi", textOf(16), textOf(33), textOf(400)} {
			for _, num := range sealNumbers() {
				text := expectLockedIsOpened(t, key, num, s)
				for _, other := range slices.Concat(sealNumbers(), noNumbers(), []int{num + 1, num - 1, num ^ 128, num + 1<<32, -num}) {
					if other != num {
						expectNotOpened(t, fmt.Sprint("locked with number ", num), key, other, text)
					}
				}
			}
		}
	}
}

// Whoever has the key may lock so, but there is no such number, and no such length.
func TestLockedBeyondTheLimits(t *testing.T) {
	for _, key := range []string{"", "k", textOf(65)} {
		for _, s := range []string{"", "hi", textOf(100)} {
			for _, num := range noNumbers() {
				for _, bytes := range []string{modelVar(num), "", modelByte(num), modelVar(num)[:1]} {
					expectNotOpened(t, "under no number", key, num, lockedUnder(key, bytes, s))
				}
			}
			for _, longer := range []string{"\x80\x00", "\x80\x80\x00", ""} {
				expectNotOpened(t, "under a longer form of 0", key, 0, lockedUnder(key, longer, s))
			}
		}
		for _, size := range []int{8001, 8002, 8016, 8192, 8193, 20000} {
			expectNotOpened(t, fmt.Sprint(size, " bytes"), key, 0, lockedUnder(key, "\x00", textOf(size)))
		}
	}
}

// The tag is of another kind, place or length than the chapter's.
func TestOtherTags(t *testing.T) {
	for _, key := range []string{"", "k", textOf(65)} {
		for _, num := range []int{0, 127, 128, mostNumber} {
			for _, s := range []string{"", "hi", textOf(16), textOf(100)} {
				text := expectLockedIsOpened(t, key, num, s)
				hidden, tag := text[:len(s)], text[len(s):]
				whole := impl.MacOf(key, "t"+modelVar(num)+hidden)
				for _, other := range []string{"", whole, whole[:15], whole[:17], whole[16:], whole[1:17], strings.Repeat("\x00", 16), strings.Repeat("\xff", 16),
					impl.MacOf(key, "m"+modelVar(num)+hidden)[:16], impl.MacOf(key, modelVar(num)+hidden)[:16], impl.MacOf(key, "t"+hidden)[:16]} {
					expectNotOpened(t, "with another tag", key, num, hidden+other)
				}
				if s != "" {
					expectNotOpened(t, "with the tag of the plain text", key, num, hidden+impl.MacOf(key, "t"+modelVar(num)+s)[:16])
					expectNotOpened(t, "with the number behind in the tag", key, num, hidden+impl.MacOf(key, "t"+hidden+modelVar(num))[:16])
					expectNotOpened(t, "with the tag of nothing", key, num, hidden+impl.MacOf(key, "t"+modelVar(num))[:16])
					expectNotOpened(t, "the tag ahead", key, num, tag+hidden)
					expectNotOpened(t, "not hidden", key, num, s+tag)
					expectNotOpened(t, "the tag alone", key, num, tag)
				}
			}
		}
	}
}

func TestLockedTextsThatAreCut(t *testing.T) {
	for i, s := range []string{"", "\x00", "hi", textOf(15), textOf(16), textOf(17), textOf(100)} {
		num := sealNumbers()[i]
		text := expectLockedIsOpened(t, "cut", num, s)
		for size := range len(text) {
			expectNotOpened(t, fmt.Sprint("cut at ", size), "cut", num, text[:size])
			expectNotOpened(t, fmt.Sprint("cut off its first ", size+1), "cut", num, text[size+1:])
			if without := text[:size] + text[size+1:]; len(without) >= sealTag {
				expectNotOpened(t, fmt.Sprint("without its byte ", size), "cut", num, without)
			}
			expectNotOpened(t, fmt.Sprint("with its byte twice ", size), "cut", num, text[:size]+text[size:size+1]+text[size:])
		}
		for b := range 256 {
			expectNotOpened(t, fmt.Sprint("with a byte ", b, " behind it"), "cut", num, text+modelByte(b))
			expectNotOpened(t, fmt.Sprint("with a byte ", b, " ahead of it"), "cut", num, modelByte(b)+text)
		}
		expectNotOpened(t, "twice", "cut", num, text+text)
	}
}

func TestLockedTextsWithOneByteTurned(t *testing.T) {
	for i, s := range []string{"", "\x00", "hi", textOf(15), textOf(16), textOf(17), textOf(50)} {
		num := sealNumbers()[i]
		text := expectLockedIsOpened(t, "turned", num, s)
		for at := range len(text) {
			for mask := 1; mask < 256; mask++ {
				if got, ok := impl.OpenText("turned", num, turnedByte(text, at, byte(mask))); got != "" || ok {
					t.Errorf("with byte %d turned by %d, of %d bytes %s, %v is opened", at, mask, len(s), tellSeed(got), ok)
				}
			}
			expectNotOpened(t, fmt.Sprint("byte ", at, " turned"), "turned", num, turnedByte(text, at, 1))
		}
	}
}

func TestGreatLockedTextsThatAreChanged(t *testing.T) {
	text := expectLockedIsOpened(t, "great", 128, textOf(mostMasked))
	for at := range len(text) {
		for _, changed := range []string{turnedByte(text, at, 1<<(at%8)), text[:at]} {
			if got, ok := impl.OpenText("great", 128, changed); got != "" || ok {
				t.Errorf("changed at %d, %s, %v is opened", at, tellSeed(got), ok)
			}
		}
	}
	for _, more := range []string{"\x00", "a", text[:15], text[8000:], textOf(100), text} {
		expectNotOpened(t, "with bytes behind it", "great", 128, text+more)
	}
}

func TestTextsThatWereNotLocked(t *testing.T) {
	for _, key := range []string{"", "k", textOf(65)} {
		for _, num := range slices.Concat([]int{0, 127, 128, mostNumber}, noNumbers()) {
			expectNotOpened(t, "the empty text", key, num, "")
			for _, size := range []int{1, 15, 16, 17, 32, 100} {
				for _, text := range []string{strings.Repeat("\x00", size), strings.Repeat("\xff", size), textOf(size), impl.DigestOf("a")[:min(size, 32)]} {
					expectNotOpened(t, fmt.Sprint(size, " bytes"), key, num, text)
				}
			}
		}
		for _, great := range slices.Concat([]string{textOf(8015), textOf(8016), textOf(8017)}, greatTexts()) {
			expectNotOpened(t, "a great text", key, 0, great)
			expectNotUnwrapped(t, "a great text", key, great)
		}
		for size := range 300 {
			for _, text := range []string{strings.Repeat("\x00", size), textOf(size)} {
				expectNotOpened(t, fmt.Sprint(size, " bytes"), key, size, text)
				expectNotUnwrapped(t, fmt.Sprint(size, " bytes"), key, text)
			}
		}
	}
}

// The tag of the empty text is all of it, so that the empty text is found where 16 bytes are right, and nothing in fewer.
func TestTheEmptyTextLocked(t *testing.T) {
	for _, key := range sealKeys() {
		for _, num := range sealNumbers() {
			text := expectLockedIsOpened(t, key, num, "")
			if len(text) != sealTag || text != macByLibrary(key, "t"+modelVar(num))[:sealTag] {
				t.Errorf("the empty text is locked as %x", text)
			}
			expectNotOpened(t, "15 bytes", key, num, text[:15])
			expectNotOpened(t, "15 bytes", key, num, text[1:])
			expectNotOpened(t, "17 bytes", key, num, text+"\x00")
			expectNotUnwrapped(t, "nothing was wrapped", key, text)
		}
	}
}

// Promise 18, of what is wrapped.
func TestWrappedTextsAreUnwrapped(t *testing.T) {
	for _, key := range []string{"", "k", textOf(65)} {
		for n := range mostWrapped + 1 {
			for _, s := range []string{textOf(n), strings.Repeat("\x00", n), strings.Repeat("\xff", n)} {
				text := expectWrappedIsUnwrapped(t, key, s)
				units := (n + 1 + wrapUnit - 1) / wrapUnit
				if n > 127 {
					units = (n + 2 + wrapUnit - 1) / wrapUnit
				}
				if len(text) != units*wrapUnit+sealTag {
					t.Errorf("%d bytes are wrapped in %d", n, len(text))
				}
			}
		}
	}
	for _, key := range slices.Concat(sealKeys(), keysAround()) {
		for _, s := range []string{"", "\x00", "hi", textOf(400)} {
			expectWrappedIsUnwrapped(t, key, s)
		}
	}
}

func TestDrawnTextsAreWrappedAndUnwrapped(t *testing.T) {
	draw := rand.New(rand.NewPCG(18, 2))
	for range 1000 {
		key, s := drawText(draw), drawBytes(draw, draw.IntN(mostWrapped+1))
		text := expectWrappedIsUnwrapped(t, key, s)
		expectNotUnwrapped(t, "a byte turned", key, turnedByte(text, draw.IntN(len(text)), 1<<draw.IntN(8)))
	}
}

func TestTextsThatAreNotWrapped(t *testing.T) {
	for _, key := range []string{"", "k", textOf(65)} {
		for _, s := range slices.Concat([]string{textOf(401), strings.Repeat("\x00", 401), textOf(402), textOf(415), textOf(416), textOf(1000), textOf(7000), textOf(8000), textOf(8001)}, greatTexts()) {
			if text, ok := expectWrapped(t, key, s); text != "" || ok {
				t.Errorf("%s is wrapped as %s, %v", tellSeed(s), tellSeed(text), ok)
			}
		}
	}
}

// By the chapter's words: what is wrapped is locked with number 0, and what was filled is found there.
func TestWrappedTextsAreLockedWithNumberZero(t *testing.T) {
	for _, s := range []string{"", "\x00", "hi", textOf(14), textOf(15), textOf(16), textOf(126), textOf(127), textOf(128), textOf(400)} {
		text := expectWrappedIsUnwrapped(t, "k", s)
		filled, ok := expectOpen(t, "k", 0, text)
		short, right := impl.ShortText(s)
		zeros, begins := strings.CutPrefix(filled, short)
		if !ok || !right || !begins || len(filled)%wrapUnit != 0 || len(zeros) >= wrapUnit || strings.Trim(zeros, "\x00") != "" {
			t.Errorf("of the wrapped %s %x, %v is opened", tellSeed(s), filled, ok)
		}
		for _, num := range append(noNumbers(), 1, 127, 128, mostNumber) {
			expectNotOpened(t, "wrapped", "k", num, text)
		}
	}
}

func TestWrappedTextsWithAnotherKey(t *testing.T) {
	for _, key := range sealKeys() {
		for _, s := range []string{"", "\x00", "hi", textOf(15), textOf(16), textOf(400)} {
			text := expectWrappedIsUnwrapped(t, key, s)
			for _, other := range otherKeys(key) {
				expectNotUnwrapped(t, "another key", other, text)
			}
		}
	}
}

func TestWrappedTextsThatAreChanged(t *testing.T) {
	for _, s := range []string{"", "\x00", "hi", textOf(14), textOf(15), textOf(16), textOf(128)} {
		text := expectWrappedIsUnwrapped(t, "changed", s)
		for at := range len(text) {
			expectNotUnwrapped(t, fmt.Sprint("cut at ", at), "changed", text[:at])
			expectNotUnwrapped(t, fmt.Sprint("cut off its first ", at+1), "changed", text[at+1:])
			expectNotUnwrapped(t, fmt.Sprint("without its byte ", at), "changed", text[:at]+text[at+1:])
			for bit := range 8 {
				expectNotUnwrapped(t, fmt.Sprintf("bit %d of byte %d turned", bit, at), "changed", turnedByte(text, at, 1<<bit))
			}
		}
		for b := range 256 {
			expectNotUnwrapped(t, fmt.Sprint("with a byte ", b, " behind it"), "changed", text+modelByte(b))
		}
		for _, more := range []string{strings.Repeat("\x00", wrapUnit), textOf(wrapUnit), text} {
			expectNotUnwrapped(t, "with bytes behind it", "changed", text+more)
		}
	}
}

func expectFilledNotUnwrapped(t *testing.T, what, filled string) {
	t.Helper()
	for _, key := range []string{"", "k", textOf(65)} {
		expectNotUnwrapped(t, what, key, lockedFor(t, key, filled))
	}
}

func toUnits(filled string) string {
	return filled + strings.Repeat("\x00", (wrapUnit-len(filled)%wrapUnit)%wrapUnit)
}

func TestUnwrappedOfLongerLengths(t *testing.T) {
	for n := 0; n <= mostWrapped; n++ {
		var list []string
		for bytes := len(modelVar(n)) + 1; bytes <= 6; bytes++ {
			longer, rest := "", n
			for range bytes - 1 {
				longer += modelByte(rest%128 + 128)
				rest /= 128
			}
			list = append(list, longer+modelByte(rest))
		}
		for _, longer := range list {
			for _, s := range []string{textOf(n), strings.Repeat("\x00", n)} {
				text := lockedFor(t, "k", toUnits(longer+s))
				if got, ok := impl.Unwrapped("k", text); got != "" || ok {
					t.Errorf("with a length %x %s, %v is unwrapped", longer, tellSeed(got), ok)
				}
			}
		}
		if n%20 == 0 {
			expectFilledNotUnwrapped(t, "a longer length", toUnits(list[0]+textOf(n)))
		}
	}
}

func TestUnwrappedOfGreaterLengths(t *testing.T) {
	for _, units := range []int{1, 2, 8, 9, 26} {
		for n := range 450 {
			length := modelVar(n)
			follow := units*wrapUnit - len(length)
			for _, c := range []struct {
				bytes string
				fits  bool
			}{
				{"\x00", n <= mostWrapped && n <= follow && follow-n < wrapUnit},
				{"\xff", n <= mostWrapped && n == follow},
			} {
				got, ok := expectUnwrapped(t, "k", lockedFor(t, "k", length+strings.Repeat(c.bytes, follow)))
				if ok != c.fits || c.fits && got != strings.Repeat(c.bytes, n) {
					t.Errorf("of a length %d, with %d bytes %x behind it, %s, %v is unwrapped", n, follow, c.bytes, tellSeed(got), ok)
				}
			}
		}
		for _, n := range []int{16383, 16384, impl.MaxText, impl.MaxText + 1, mostNumber, mostNumber + 1, 1 << 32, math.MaxInt} {
			for _, behind := range []string{"", textOf(5), textOf(400)} {
				expectFilledNotUnwrapped(t, fmt.Sprint("a length ", n), toUnits(modelVar(n)+behind))
			}
		}
	}
	for _, broken := range []string{"\x80", "\xff\xff", strings.Repeat("\x80", 16), strings.Repeat("\xff", 16), strings.Repeat("\xff", 32)} {
		expectFilledNotUnwrapped(t, "a length that does not end", broken)
	}
}

func TestUnwrappedOfBytesBehindThatAreNotZero(t *testing.T) {
	for _, s := range []string{"", "\x00", "hi", textOf(7), textOf(14), textOf(16), textOf(128), textOf(399), textOf(400)} {
		filled := toUnits(filledWith(s, 0))
		for at := len(filledWith(s, 0)); at < len(filled); at++ {
			for _, mask := range []byte{1, 32, 128, 255} {
				expectFilledNotUnwrapped(t, fmt.Sprintf("byte %d is %d", at, mask), turnedByte(filled, at, mask))
			}
		}
	}
}

func TestUnwrappedOfMoreOrFewerZeros(t *testing.T) {
	for _, s := range []string{"", "\x00", "hi", textOf(7), textOf(14), textOf(15), textOf(16), textOf(31), textOf(128), textOf(400)} {
		right := len(toUnits(filledWith(s, 0))) - len(filledWith(s, 0))
		for zeros := range 70 {
			if zeros != right {
				expectFilledNotUnwrapped(t, fmt.Sprintf("%d zeros in place of %d", zeros, right), filledWith(s, zeros))
			}
		}
		got, ok := expectUnwrapped(t, "k", lockedFor(t, "k", filledWith(s, right)))
		if !ok || got != s {
			t.Errorf("with its %d zeros %s, %v is unwrapped", right, tellSeed(got), ok)
		}
	}
}

func TestUnwrappedOfTextsThatAreTooLong(t *testing.T) {
	for _, n := range []int{401, 402, 413, 414, 415, 416, 430, 500, 1000, 4000, 7998} {
		expectFilledNotUnwrapped(t, fmt.Sprint(n, " bytes"), filledWith(textOf(n), 0))
		if filled := toUnits(filledWith(textOf(n), 0)); len(filled) <= mostMasked {
			expectFilledNotUnwrapped(t, fmt.Sprint(n, " bytes"), filled)
			expectFilledNotUnwrapped(t, fmt.Sprint(n, " bytes 0"), toUnits(filledWith(strings.Repeat("\x00", n), 0)))
		}
	}
}

func TestUnwrappedOfNothing(t *testing.T) {
	expectFilledNotUnwrapped(t, "nothing at all", "")
	for size := 1; size < 100; size++ {
		text := lockedFor(t, "k", strings.Repeat("\x00", size))
		if got, ok := expectUnwrapped(t, "k", text); got != "" || ok != (size == wrapUnit) {
			t.Errorf("of %d bytes 0 %s, %v is unwrapped", size, tellSeed(got), ok)
		}
	}
	for _, key := range sealKeys() {
		expectNotUnwrapped(t, "the empty text", key, "")
	}
}

// What is wrapped well, but locked with another number, was not wrapped.
func TestUnwrappedOfOtherNumbers(t *testing.T) {
	for _, s := range []string{"", "hi", textOf(100)} {
		for _, num := range sealNumbers() {
			text, ok := impl.LockText("k", num, toUnits(filledWith(s, 0)))
			if got, right := expectUnwrapped(t, "k", text); !ok || right != (num == 0) || right && got != s {
				t.Errorf("locked with number %d, %s, %v is unwrapped", num, tellSeed(got), right)
			}
		}
		expectNotUnwrapped(t, "under a longer form of 0", "k", lockedUnder("k", "\x80\x00", toUnits(filledWith(s, 0))))
	}
}

func TestUnwrappedOfDrawnTexts(t *testing.T) {
	draw := rand.New(rand.NewPCG(18, 3))
	unwrapped, refused := 0, 0
	for range 5000 {
		s := drawBytes(draw, draw.IntN(40))
		if draw.IntN(8) == 0 {
			s = drawBytes(draw, 380+draw.IntN(40))
		}
		filled := toUnits(filledWith(s, 0))
		switch draw.IntN(4) {
		case 0:
			filled = turnedByte(filled, draw.IntN(len(filled)), 1<<draw.IntN(8))
		case 1:
			filled = turnedByte(filled, 0, byte(draw.IntN(4)))
		case 2:
			filled = filled[:draw.IntN(len(filled)+1)]
		}
		got, ok := expectUnwrapped(t, "drawn", lockedFor(t, "drawn", filled))
		if !ok {
			refused++
			continue
		}
		unwrapped++
		if back := expectWrappedIsUnwrapped(t, "drawn", got); back != lockedFor(t, "drawn", filled) {
			t.Errorf("of %x %s is unwrapped, which is not wrapped so", filled, tellSeed(got))
		}
	}
	if unwrapped < 500 || refused < 500 {
		t.Errorf("of the drawn texts %d are unwrapped, and %d refused", unwrapped, refused)
	}
}

// The key may be a piece of the text, and the text of its own key.
func TestSealsWhoseArgumentsLieTogether(t *testing.T) {
	whole := textOf(300)
	was := strings.Clone(whole)
	for _, c := range [][2]string{{whole, whole}, {whole[:40], whole}, {whole[10:50], whole[20:60]}, {whole[:0], whole[:1]}, {whole[5:6], whole[5:6]}} {
		key, s := c[0], c[1]
		locked, ok := impl.LockText(key, 4, s)
		opened, right := impl.OpenText(key, 4, locked)
		wrapped, good := impl.Wrapped(key, s)
		unwrapped, well := impl.Unwrapped(key, wrapped)
		if !ok || !right || !good || !well || opened != s || unwrapped != s || whole != was {
			t.Errorf("%s with the key %s comes back as %s and %s", tellSeed(s), tellSeed(key), tellSeed(opened), tellSeed(unwrapped))
		}
		expectOwnTexts(t, "seals", []string{locked, opened, wrapped, unwrapped}, whole)
	}
}

// A reader that finds nothing leaves nothing behind: the next one finds its text.
func TestSealsAmongMany(t *testing.T) {
	var callers sync.WaitGroup
	for caller := range 8 {
		callers.Go(func() {
			for n := range 100 {
				key, s := fmt.Sprint("key ", caller), textOf(n)
				locked, ok := impl.LockText(key, n, s)
				wrapped, good := impl.Wrapped(key, s)
				if want, _ := modelLock(key, n, s); !ok || locked != want {
					t.Error("a text locked among many is another one")
				}
				if want, _ := modelWrapped(key, s); !good || wrapped != want {
					t.Error("a text wrapped among many is another one")
				}
				for _, wrong := range []string{"", locked[:n], locked + "\x00", wrapped[1:]} {
					_, opened := impl.OpenText(key, n, wrong)
					_, unwrapped := impl.Unwrapped(key, wrong)
					if opened || unwrapped {
						t.Error("a wrong seal among many is right")
					}
				}
				opened, right := impl.OpenText(key, n, locked)
				unwrapped, well := impl.Unwrapped(key, wrapped)
				if !right || !well || opened != s || unwrapped != s {
					t.Error("a seal among many does not come back")
				}
			}
		})
	}
	callers.Wait()
}
