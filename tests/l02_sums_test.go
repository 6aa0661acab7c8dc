package tests

import (
	"encoding/binary"
	"hash/crc32"
	"math"
	"strings"
	"testing"

	"loop.example/g00186/impl"
)

const sumFactor = 3558460437

// stepBack is the sum that one of the eight steps makes to this one: only an odd sum leaves its highest bit set.
func stepBack(sum uint32) uint32 {
	if sum>>31 == 1 {
		return (sum^sumFactor)<<1 | 1
	}
	return sum << 1
}

// sumByBits goes bit by bit, by the chapter's words.
func sumByBits(sum uint32, text string) uint32 {
	for _, b := range []byte(text) {
		sum ^= uint32(b)
		for range 8 {
			odd := sum%2 == 1
			sum /= 2
			if odd {
				sum ^= sumFactor
			}
		}
	}
	return sum
}

// withSum is the text and four more bytes by which its sum is the one wanted.
func withSum(text string, want uint32) string {
	for range 32 {
		want = stepBack(want)
	}
	return text + string(binary.LittleEndian.AppendUint32(nil, want^sumByBits(math.MaxUint32, text)))
}

func sealedByBits(text string) string {
	return text + string(binary.BigEndian.AppendUint32(nil, sumByBits(math.MaxUint32, text)))
}

func sumsAround() []uint32 {
	list := []uint32{0, 1, 255, 256, sumFactor, math.MaxUint32 - 1, math.MaxUint32}
	for bit := range 32 {
		list = append(list, 1<<bit, 1<<bit-1)
	}
	return list
}

func sealedTexts() []string {
	list := textsAround()
	for _, sum := range sumsAround() {
		list = append(list, withSum("", sum), withSum("tick 1", sum))
	}
	return list
}

func expectUnsealed(t *testing.T, text, want string) {
	t.Helper()
	s, ok := impl.Unsealed(text)
	if s != want || !ok {
		t.Errorf("Unsealed of %d bytes = %d bytes, %v, want %d bytes", len(text), len(s), ok, len(want))
	}
	if sharesMemory(s, text) {
		t.Errorf("Unsealed of %d bytes shares its argument's memory", len(text))
	}
}

func expectNotUnsealed(t *testing.T, text string) {
	t.Helper()
	if s, ok := impl.Unsealed(text); s != "" || ok {
		t.Errorf("Unsealed of %d bytes = %d bytes, %v, want none", len(text), len(s), ok)
	}
}

func TestSumNumbers(t *testing.T) {
	if got := impl.SumMore(0, "\x80"); got != sumFactor {
		t.Errorf("SumMore(0, 128) = %d", got)
	}
	if got := impl.SumOf(""); got != math.MaxUint32 {
		t.Errorf("SumOf of nothing = %d", got)
	}
	// The check value by which this sum is known elsewhere (there, all bits are turned over at the end).
	if got := ^impl.SumOf("123456789"); got != 0x87315576 {
		t.Errorf("SumOf(123456789) turned over = %x", got)
	}
}

func TestSumMoreOfEachByte(t *testing.T) {
	for _, sum := range sumsAround() {
		if got := impl.SumMore(sum, ""); got != sum {
			t.Errorf("SumMore(%d, nothing) = %d", sum, got)
		}
		for b := range 256 {
			text := string([]byte{byte(b)})
			if got, want := impl.SumMore(sum, text), sumByBits(sum, text); got != want {
				t.Errorf("SumMore(%d, %d) = %d, want %d", sum, b, got, want)
			}
		}
	}
}

// Against the library, whose sums are turned over at their beginning and end.
func TestSumsOfTexts(t *testing.T) {
	table := crc32.MakeTable(sumFactor)
	long := strings.Repeat("\x00\xffz", impl.MaxText)
	for _, text := range append(textsAround(), long, long[:impl.MaxText+1], strings.Repeat("\x00", 999), strings.Repeat("\xff", 999)) {
		if got, want := impl.SumOf(text), ^crc32.Update(0, table, []byte(text)); got != want {
			t.Errorf("SumOf of %d bytes = %d, want %d", len(text), got, want)
		}
		for _, sum := range sumsAround() {
			if got, want := impl.SumMore(sum, text), ^crc32.Update(^sum, table, []byte(text)); got != want {
				t.Errorf("SumMore of %d and %d bytes = %d, want %d", sum, len(text), got, want)
			}
		}
	}
}

func TestSumOfWantedSums(t *testing.T) {
	for _, sum := range sumsAround() {
		for _, text := range []string{"", "\x00", "\xff\xff", "tick 1"} {
			if got := impl.SumOf(withSum(text, sum)); got != sum {
				t.Errorf("SumOf of %q and four bytes = %d, want %d", text, got, sum)
			}
		}
	}
}

func TestSumMoreGoesOn(t *testing.T) {
	for _, text := range textsAround() {
		whole := impl.SumOf(text)
		step := len(text)/500 + 1
		for cut := 0; cut <= len(text); cut += step {
			if got := impl.SumMore(impl.SumOf(text[:cut]), text[cut:]); got != whole {
				t.Errorf("of %d bytes cut at %d: %d, want %d", len(text), cut, got, whole)
			}
		}
		byBytes := impl.SumOf("")
		for i := range len(text) {
			byBytes = impl.SumMore(byBytes, text[i:i+1])
		}
		if byBytes != whole {
			t.Errorf("of %d bytes, one by one: %d, want %d", len(text), byBytes, whole)
		}
	}
}

func TestSumMoreGoesOnFromEachSum(t *testing.T) {
	text := strings.Repeat("\x00\x80z\xff", 30)
	for _, sum := range sumsAround() {
		whole := impl.SumMore(sum, text)
		for cut := range len(text) + 1 {
			if got := impl.SumMore(impl.SumMore(sum, text[:cut]), text[cut:]); got != whole {
				t.Errorf("from %d, cut at %d: %d, want %d", sum, cut, got, whole)
			}
		}
	}
}

func TestSealedBytes(t *testing.T) {
	for text, want := range map[string]string{
		"":                        "\xff\xff\xff\xff",
		"123456789":               "123456789\x78\xce\xaa\x89",
		withSum("ab", 0):          withSum("ab", 0) + "\x00\x00\x00\x00",
		withSum("ab", 0x01020304): withSum("ab", 0x01020304) + "\x01\x02\x03\x04",
		withSum("ab", 4294967295): withSum("ab", 4294967295) + "\xff\xff\xff\xff",
	} {
		if s, ok := impl.Sealed(text); s != want || !ok {
			t.Errorf("Sealed(%q) = %q, %v, want %q", text, s, ok, want)
		}
	}
}

func TestSealedIsUnsealed(t *testing.T) {
	for _, text := range sealedTexts() {
		s, ok := impl.Sealed(text)
		if s != sealedByBits(text) || !ok {
			t.Errorf("Sealed of %d bytes is wrong, %v", len(text), ok)
		}
		if sharesMemory(s, text) {
			t.Errorf("Sealed of %d bytes shares its argument's memory", len(text))
		}
		expectUnsealed(t, sealedByBits(text), text)
	}
}

func TestSealedAtItsLimit(t *testing.T) {
	most := strings.Repeat("\xff\x00", impl.MaxText/2)
	if s, ok := impl.Sealed(most); len(s) != impl.MaxText+4 || !ok {
		t.Errorf("Sealed of MaxText bytes = %d bytes, %v", len(s), ok)
	}
	expectUnsealed(t, sealedByBits(most), most)
	for _, more := range []int{1, 2, 4, 5, impl.MaxText} {
		text := most + strings.Repeat("z", more)
		if s, ok := impl.Sealed(text); s != "" || ok {
			t.Errorf("Sealed of MaxText and %d bytes = %d bytes, %v", more, len(s), ok)
		}
		expectNotUnsealed(t, sealedByBits(text))
	}
}

func TestUnsealedOfShortTexts(t *testing.T) {
	expectNotUnsealed(t, "")
	for x := range 1 << 16 {
		expectNotUnsealed(t, string([]byte{byte(x)}))
		expectNotUnsealed(t, string([]byte{byte(x >> 8), byte(x)}))
		expectNotUnsealed(t, string([]byte{byte(x >> 8), byte(x), 0xff}))
	}
	expectUnsealed(t, "\xff\xff\xff\xff", "")
	for x := range 1 << 16 {
		if x != math.MaxUint16 {
			expectNotUnsealed(t, "\xff\xff"+string([]byte{byte(x >> 8), byte(x)}))
			expectNotUnsealed(t, string([]byte{byte(x >> 8), byte(x)})+"\xff\xff")
		}
	}
	expectNotUnsealed(t, "\x00\x00\x00\x00")
}

func TestUnsealedRefusesATurnedByte(t *testing.T) {
	for _, text := range sealedTexts() {
		if len(text) > 300 {
			continue
		}
		sealed := []byte(sealedByBits(text))
		for place, was := range sealed {
			for turned := range 256 {
				if byte(turned) == was {
					continue
				}
				sealed[place] = byte(turned)
				expectNotUnsealed(t, string(sealed))
			}
			sealed[place] = was
		}
		expectUnsealed(t, string(sealed), text)
	}
}

func TestUnsealedRefusesATurnedByteOfALongText(t *testing.T) {
	sealed := []byte(sealedByBits(strings.Repeat("\x00z\xff\x80", impl.MaxText/4)))
	for place := 0; place < len(sealed); place += 61 {
		for _, turn := range []byte{1, 2, 16, 128, 255} {
			sealed[place] ^= turn
			expectNotUnsealed(t, string(sealed))
			sealed[place] ^= turn
		}
	}
}

func TestUnsealedRefusesOtherForms(t *testing.T) {
	for _, text := range []string{"abc", "123456789", withSum("ab", 0x01020304)} {
		sum := sumByBits(math.MaxUint32, text)
		sealed := sealedByBits(text)
		for _, wrong := range []string{
			text, sealed[:len(sealed)-1], sealed[1:], sealed + "\x00", "\x00" + sealed, sealed[len(text):] + text,
			text + string(binary.LittleEndian.AppendUint32(nil, sum)), text + string(binary.BigEndian.AppendUint32(nil, ^sum)),
			text + string(binary.BigEndian.AppendUint32(nil, sumByBits(0, text))),
			text + string(binary.BigEndian.AppendUint32(nil, crc32.ChecksumIEEE([]byte(text)))),
		} {
			expectNotUnsealed(t, wrong)
		}
	}
}
