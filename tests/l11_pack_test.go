package tests

import (
	"fmt"
	"math"
	"math/big"
	"math/rand/v2"
	"slices"
	"strings"
	"sync"
	"testing"
	"unsafe"

	"loop.example/g00186/impl"
)

const (
	mostBits     = 12
	mostUnpacked = 1000
	mostSqueezed = 11
	polySize     = 384
)

// modelPack writes the bits down as figures, one behind the other, and takes 8 of them for a byte.
func modelPack(list []int, bits int) (string, bool) {
	if bits < 1 || bits > 12 {
		return "", false
	}
	var figures []byte
	for _, n := range list {
		if n < 0 || n > int(math.Pow(2, float64(bits)))-1 {
			return "", false
		}
		own := fmt.Appendf(nil, "%0*b", bits, n)
		slices.Reverse(own)
		figures = append(figures, own...)
	}
	for len(figures)%8 != 0 {
		figures = append(figures, '0')
	}
	var packed []byte
	for eight := range slices.Chunk(figures, 8) {
		b := byte(0)
		for i, figure := range eight {
			if figure == '1' {
				b += byte(math.Pow(2, float64(i)))
			}
		}
		packed = append(packed, b)
	}
	return string(packed), true
}

// modelUnpack takes the text as one great number, least byte first, and asks whether what it cuts out of it has this Pack.
func modelUnpack(s string, bits int, n int) ([]int, bool) {
	if n < 0 || n > 1000 || bits < 1 || bits > 12 {
		return nil, false
	}
	bytes := []byte(s)
	slices.Reverse(bytes)
	whole := new(big.Int).SetBytes(bytes)
	unit := big.NewInt(int64(math.Pow(2, float64(bits))))
	list := make([]int, n)
	for i := range list {
		rest := new(big.Int)
		whole.DivMod(whole, unit, rest)
		list[i] = int(rest.Int64())
	}
	if again, ok := modelPack(list, bits); !ok || again != s {
		return nil, false
	}
	return list, true
}

// modelSqueeze divides in floats: a quotient that is not whole is at least 1 by Q off a whole number, so that it is never rounded to one.
func modelSqueeze(x int, d int) int {
	if x < 0 || x > ringSize-1 || d < 1 || d > 11 {
		return 0
	}
	power := int(math.Pow(2, float64(d)))
	return int(math.Floor(float64(power*x+1664)/ringSize)) % power
}

func modelStretch(y int, d int) int {
	if d < 1 || d > 11 || y < 0 || y > int(math.Pow(2, float64(d)))-1 {
		return 0
	}
	return int(math.Floor((ringSize*float64(y) + math.Pow(2, float64(d-1))) / math.Pow(2, float64(d))))
}

func modelPolyBytes(p []int) string {
	if !modelPolyOk(p) {
		return ""
	}
	s, _ := modelPack(p, 12)
	return s
}

func modelPolyFrom(s string) ([]int, bool) {
	p, ok := modelUnpack(s, 12, 256)
	if !ok || !modelPolyOk(p) {
		return nil, false
	}
	return p, true
}

func listHolds(s string, list []int) bool {
	if s == "" || cap(list) == 0 {
		return false
	}
	text := uintptr(unsafe.Pointer(unsafe.StringData(s)))
	first := uintptr(unsafe.Pointer(unsafe.SliceData(list)))
	return text < first+8*uintptr(cap(list)) && first < text+uintptr(len(s))
}

func expectPack(t *testing.T, list []int, bits int) (string, bool) {
	t.Helper()
	given, stays := guarded(list, 1)
	got, ok := impl.Pack(given, bits)
	if want, right := modelPack(list, bits); got != want || ok != right {
		t.Errorf("Pack of %s with %d bits = %.40x, %v, want %.40x, %v", tellPoly(list), bits, got, ok, want, right)
	}
	if !stays() || listHolds(got, given) {
		t.Errorf("Pack of %s with %d bits writes into its argument, or shares its memory", tellPoly(list), bits)
	}
	return got, ok
}

func expectUnpack(t *testing.T, s string, bits int, n int) ([]int, bool) {
	t.Helper()
	given, was := strings.Clone(s), strings.Clone(s)
	got, ok := impl.Unpack(given, bits, n)
	if want, right := modelUnpack(s, bits, n); !slices.Equal(got, want) || ok != right {
		t.Errorf("Unpack of %d bytes %.40x with %d bits to %d = %s, %v, want %s, %v", len(s), s, bits, n, tellPoly(got), ok, tellPoly(want), right)
	}
	if given != was || listHolds(given, got) {
		t.Errorf("Unpack of %d bytes %.40x with %d bits to %d writes into its argument, or shares its memory", len(s), s, bits, n)
	}
	return got, ok
}

func expectNotPacked(t *testing.T, list []int, bits int) {
	t.Helper()
	if s, ok := expectPack(t, list, bits); s != "" || ok {
		t.Errorf("Pack of %s with %d bits = %.40x, %v, want none", tellPoly(list), bits, s, ok)
	}
}

func expectNotUnpacked(t *testing.T, s string, bits int, n int) {
	t.Helper()
	if list, ok := expectUnpack(t, s, bits, n); len(list) != 0 || ok {
		t.Errorf("Unpack of %d bytes %.40x with %d bits to %d = %s, %v, want none", len(s), s, bits, n, tellPoly(list), ok)
	}
}

// Promise 11, first half, both ways.
func expectPackedAndBack(t *testing.T, list []int, bits int) string {
	t.Helper()
	s, ok := expectPack(t, list, bits)
	if size := int(math.Ceil(float64(len(list)*bits) / 8)); !ok || len(s) != size {
		t.Errorf("Pack of %s with %d bits = %d bytes, %v, want %d", tellPoly(list), bits, len(s), ok, size)
	}
	got, ok := expectUnpack(t, s, bits, len(list))
	if !ok || !slices.Equal(got, list) {
		t.Errorf("%s, packed with %d bits, are unpacked as %s, %v", tellPoly(list), bits, tellPoly(got), ok)
	}
	if again, ok := impl.Pack(got, bits); !ok || again != s {
		t.Errorf("%s, unpacked of %.40x, are packed again as %.40x, %v", tellPoly(got), s, again, ok)
	}
	return s
}

func expectSqueeze(t *testing.T, x int, d int) int {
	t.Helper()
	got := impl.Squeeze(x, d)
	if want := modelSqueeze(x, d); got != want {
		t.Errorf("Squeeze(%d, %d) = %d, want %d", x, d, got, want)
	}
	return got
}

func expectStretch(t *testing.T, y int, d int) int {
	t.Helper()
	got := impl.Stretch(y, d)
	if want := modelStretch(y, d); got != want {
		t.Errorf("Stretch(%d, %d) = %d, want %d", y, d, got, want)
	}
	return got
}

func expectPolyBytes(t *testing.T, p []int) string {
	t.Helper()
	given, stays := guarded(p, 7)
	got := impl.PolyBytes(given)
	if want := modelPolyBytes(p); got != want {
		t.Errorf("PolyBytes of %s = %d bytes %.40x, want %d bytes %.40x", tellPoly(p), len(got), got, len(want), want)
	}
	if !stays() || listHolds(got, given) {
		t.Errorf("PolyBytes of %s writes into its argument, or shares its memory", tellPoly(p))
	}
	return got
}

func expectPolyFrom(t *testing.T, s string) ([]int, bool) {
	t.Helper()
	given, was := strings.Clone(s), strings.Clone(s)
	got, ok := impl.PolyFrom(given)
	if want, right := modelPolyFrom(s); !slices.Equal(got, want) || ok != right {
		t.Errorf("PolyFrom of %d bytes %.40x = %s, %v, want %s, %v", len(s), s, tellPoly(got), ok, tellPoly(want), right)
	}
	if given != was || listHolds(given, got) {
		t.Errorf("PolyFrom of %d bytes %.40x writes into its argument, or shares its memory", len(s), s)
	}
	return got, ok
}

func expectNoPoly(t *testing.T, what string, s string) {
	t.Helper()
	if p, ok := expectPolyFrom(t, s); len(p) != 0 || ok {
		t.Errorf("%s: PolyFrom = %s, %v, want none", what, tellPoly(p), ok)
	}
}

func packSizes() []int {
	return []int{0, 1, 2, 3, 7, 8, 9, 15, 16, 17, 255, 256, 257, 999, 1000}
}

func bitsThatAreRefused() []int {
	return []int{0, -1, -2, -12, 13, 14, 16, 24, 62, 63, 64, 65, 68, 1 << 32, 1<<32 + 4, -1 << 32, 1<<32 - 4, math.MinInt, math.MinInt + 4, math.MaxInt}
}

func drawNumbers(draw *rand.Rand, size int, bits int) []int {
	list := make([]int, size)
	for i := range list {
		list[i] = draw.IntN(1 << bits)
	}
	return list
}

// listsOf are lists of a size in which a bit at a wrong place, or one too many, is seen.
func listsOf(size int, bits int) [][]int {
	most := 1<<bits - 1
	draw := rand.New(rand.NewPCG(11, uint64(size*100+bits)))
	list := [][]int{make([]int, size), slices.Repeat([]int{most}, size), drawNumbers(draw, size, bits), drawNumbers(draw, size, bits)}
	for i := range min(size, 9) {
		for _, n := range []int{1, 1 << (bits - 1), most} {
			first, last := make([]int, size), slices.Repeat([]int{most}, size)
			first[i], last[size-1-i] = n, most-n
			list = append(list, first, last)
		}
	}
	return list
}

func TestPackedByHand(t *testing.T) {
	for _, c := range []struct {
		list []int
		bits int
		want string
	}{
		{nil, 1, ""}, {nil, 12, ""}, {[]int{}, 7, ""},
		{[]int{0}, 1, "\x00"}, {[]int{1}, 1, "\x01"}, {[]int{0, 1}, 1, "\x02"}, {[]int{1, 0, 0, 0, 0, 0, 0, 1}, 1, "\x81"}, {[]int{0, 0, 0, 0, 0, 0, 0, 0, 1}, 1, "\x00\x01"},
		{[]int{3, 2, 1, 0}, 2, "\x1b"}, {[]int{1, 2, 3, 4, 5, 6, 7, 0}, 3, "\xd1\x58\x1f"}, {[]int{7, 0, 7}, 3, "\xc7\x01"},
		{[]int{1, 2, 3}, 4, "\x21\x03"}, {[]int{15, 0, 15, 0}, 4, "\x0f\x0f"}, {[]int{31, 0, 1}, 5, "\x1f\x04"},
		{[]int{127, 0, 127}, 7, "\x7f\xc0\x1f"}, {[]int{65, 128, 255}, 8, "A\x80\xff"},
		{[]int{256}, 9, "\x00\x01"}, {[]int{1, 1}, 9, "\x01\x02\x00"}, {[]int{1023, 0, 1}, 10, "\xff\x03\x10\x00"}, {[]int{1024, 1}, 11, "\x00\x0c\x00"},
		{[]int{2748}, 12, "\xbc\x0a"}, {[]int{291, 1110}, 12, "\x23\x61\x45"}, {[]int{4095, 0}, 12, "\xff\x0f\x00"}, {[]int{0, 4095}, 12, "\x00\xf0\xff"},
	} {
		if s, ok := impl.Pack(c.list, c.bits); !ok || s != c.want {
			t.Errorf("Pack(%v, %d) = %x, %v, want %x", c.list, c.bits, s, ok, c.want)
		}
		if list, ok := impl.Unpack(c.want, c.bits, len(c.list)); !ok || !slices.Equal(list, c.list) {
			t.Errorf("Unpack(%x, %d, %d) = %v, %v, want %v", c.want, c.bits, len(c.list), list, ok, c.list)
		}
	}
}

func TestPackedIsUnpacked(t *testing.T) {
	for bits := 1; bits <= mostBits; bits++ {
		for _, size := range packSizes() {
			for _, list := range listsOf(size, bits) {
				expectPackedAndBack(t, list, bits)
			}
		}
	}
}

func TestEachNumberIsUnpacked(t *testing.T) {
	for bits := 1; bits <= mostBits; bits++ {
		for n := range 1 << bits {
			expectPackedAndBack(t, []int{n}, bits)
			expectPackedAndBack(t, []int{1<<bits - 1, n, 0, n}, bits)
		}
	}
}

// No two lists of one size have the same Pack, and each text that is unpacked is that of its list.
func TestTextsOfTwoBytes(t *testing.T) {
	for bits := 1; bits <= mostBits; bits++ {
		for n := 8/bits + 1; n*bits <= 16; n++ {
			unpacked := 0
			for x := range 1 << 16 {
				s := string([]byte{byte(x), byte(x >> 8)})
				list, ok := impl.Unpack(s, bits, n)
				if !ok {
					continue
				}
				unpacked++
				if again, right := impl.Pack(list, bits); !right || again != s || len(list) != n {
					t.Fatalf("%x is unpacked with %d bits to %v, which is packed as %x, %v", s, bits, list, again, right)
				}
			}
			if unpacked != 1<<(n*bits) {
				t.Errorf("%d texts are unpacked with %d bits to %d numbers, want %d", unpacked, bits, n, 1<<(n*bits))
			}
		}
	}
}

func TestTextsOfOneByte(t *testing.T) {
	for x := range 256 {
		for bits := 0; bits <= mostBits+1; bits++ {
			for n := -1; n <= 10; n++ {
				expectUnpack(t, string([]byte{byte(x)}), bits, n)
			}
		}
	}
}

func TestNumbersThatAreNotPacked(t *testing.T) {
	for bits := 1; bits <= mostBits; bits++ {
		most := 1<<bits - 1
		wrong := []int{-1, -2, -most, most + 1, most + 2, 2*most + 1, 2*most + 2, -most - 1, 1 << 12, 1 << 16, 1 << 32, 1<<32 + 1, math.MinInt, math.MinInt + 1, math.MaxInt}
		for _, size := range []int{1, 7, 8, 9, 256} {
			for _, n := range wrong {
				for _, i := range []int{0, size / 2, size - 1} {
					for _, other := range []int{0, most} {
						list := slices.Repeat([]int{other}, size)
						list[i] = n
						expectNotPacked(t, list, bits)
						list[i] = other
						expectPackedAndBack(t, list, bits)
					}
				}
			}
		}
	}
}

func TestBitsThatAreRefused(t *testing.T) {
	for _, bits := range bitsThatAreRefused() {
		for _, list := range [][]int{nil, {}, {0}, {1}, {0, 0}, {-1}, {4096}, make([]int, 8), make([]int, 256)} {
			expectNotPacked(t, list, bits)
		}
		for _, n := range []int{-1, 0, 1, 2, 8, 256, 1000, 1001, math.MaxInt} {
			for _, size := range []int{0, 1, 2, 13, 256, 416} {
				expectNotUnpacked(t, strings.Repeat("\x00", size), bits, n)
			}
		}
	}
}

func TestLengthsThatAreNotUnpacked(t *testing.T) {
	for bits := 1; bits <= mostBits; bits++ {
		for _, size := range packSizes() {
			for _, list := range [][]int{make([]int, size), slices.Repeat([]int{1<<bits - 1}, size)} {
				s, _ := impl.Pack(list, bits)
				expectNotUnpacked(t, s+"\x00", bits, size)
				expectNotUnpacked(t, s+"\x01", bits, size)
				expectNotUnpacked(t, "\x00"+s, bits, size)
				expectNotUnpacked(t, s+s+"\x00", bits, size)
				if size > 0 {
					expectNotUnpacked(t, s[1:], bits, size)
					expectNotUnpacked(t, s[:len(s)-1], bits, size)
					expectNotUnpacked(t, "", bits, size)
				}
			}
		}
	}
}

func TestBitsThatAreLeftOver(t *testing.T) {
	for bits := 1; bits <= mostBits; bits++ {
		for size := range 40 {
			for _, list := range [][]int{make([]int, size), slices.Repeat([]int{1<<bits - 1}, size)} {
				s := expectPackedAndBack(t, list, bits)
				for place := size * bits; place < 8*len(s); place++ {
					turned := []byte(s)
					turned[len(s)-1] |= 1 << (place % 8)
					expectNotUnpacked(t, string(turned), bits, size)
				}
			}
		}
	}
}

func TestEachBitIsOneNumbers(t *testing.T) {
	for bits := 1; bits <= mostBits; bits++ {
		for place := range 17 * bits {
			list := make([]int, 17)
			list[place/bits] = 1 << (place % bits)
			s := expectPackedAndBack(t, list, bits)
			want := make([]byte, len(s))
			want[place/8] = 1 << (place % 8)
			if s != string(want) {
				t.Errorf("the bit %d of numbers of %d bits is packed as %x", place, bits, s)
			}
		}
	}
}

func TestHowManyAreUnpacked(t *testing.T) {
	for bits := 1; bits <= mostBits; bits++ {
		for _, n := range []int{-1, -2, -8, -mostUnpacked, math.MinInt, math.MinInt + 8, -1 << 32, mostUnpacked + 1, mostUnpacked + 2, 1016, 2000, 1 << 32, 1 << 60, 1 << 61, 1 << 62, math.MaxInt} {
			for _, size := range []int{0, 1, 2, bits, 125 * bits, 126 * bits} {
				expectNotUnpacked(t, strings.Repeat("\x00", size), bits, n)
			}
		}
		expectPackedAndBack(t, slices.Repeat([]int{1<<bits - 1}, mostUnpacked), bits)
		expectPackedAndBack(t, nil, bits)
		for _, size := range []int{mostUnpacked + 1, mostUnpacked + 8, 5000} {
			s, ok := expectPack(t, slices.Repeat([]int{1<<bits - 1}, size), bits)
			if !ok {
				t.Errorf("%d numbers of %d bits are not packed", size, bits)
			}
			expectNotUnpacked(t, s, bits, size)
			expectNotUnpacked(t, s, bits, mostUnpacked)
		}
	}
}

func TestDrawnTextsAreUnpacked(t *testing.T) {
	draw := rand.New(rand.NewPCG(11, 1))
	for range 20000 {
		bits, n := 1+draw.IntN(mostBits), draw.IntN(20)
		s := []byte(drawText(draw))
		if draw.IntN(4) > 0 {
			s = append(s, make([]byte, 40)...)[:(n*bits+7)/8]
		}
		list, ok := expectUnpack(t, string(s), bits, n)
		if again, _ := impl.Pack(list, bits); ok && again != string(s) {
			t.Errorf("%x is unpacked with %d bits as %v, which is packed as %x", s, bits, list, again)
		}
	}
}

func TestSqueezedByHand(t *testing.T) {
	for _, c := range [][3]int{
		{0, 1, 0}, {832, 1, 0}, {833, 1, 1}, {1664, 1, 1}, {2496, 1, 1}, {2497, 1, 0}, {3328, 1, 0},
		{104, 4, 0}, {105, 4, 1}, {3224, 4, 15}, {3225, 4, 0}, {1, 10, 0}, {2, 10, 1}, {3328, 10, 0}, {3327, 10, 1023},
		{1, 11, 1}, {2, 11, 1}, {3, 11, 2}, {3327, 11, 2047}, {3328, 11, 2047},
	} {
		if got := impl.Squeeze(c[0], c[1]); got != c[2] {
			t.Errorf("Squeeze(%d, %d) = %d, want %d", c[0], c[1], got, c[2])
		}
	}
	for _, c := range [][3]int{
		{0, 1, 0}, {1, 1, 1665}, {1, 2, 832}, {2, 2, 1665}, {3, 2, 2497}, {1, 4, 208}, {15, 4, 3121}, {8, 4, 1665},
		{1, 10, 3}, {1023, 10, 3326}, {0, 11, 0}, {1, 11, 2}, {2, 11, 3}, {2047, 11, 3327},
	} {
		if got := impl.Stretch(c[0], c[1]); got != c[2] {
			t.Errorf("Stretch(%d, %d) = %d, want %d", c[0], c[1], got, c[2])
		}
	}
}

func aroundRing(x, y int) int {
	off := modelMod(x-y, ringSize)
	return min(off, ringSize-off)
}

// Promise 11, second half: what is squeezed and stretched is at most half a step, Q by 2^(d + 1), off, to the nearest whole number.
func TestSqueezedAndStretchedIsNear(t *testing.T) {
	for d := 1; d <= mostSqueezed; d++ {
		half := int(math.Round(ringSize / math.Pow(2, float64(d+1))))
		farthest := 0
		for x := range ringSize {
			y := expectSqueeze(t, x, d)
			if y < 0 || y >= 1<<d {
				t.Errorf("Squeeze(%d, %d) = %d, which has more bits", x, d, y)
			}
			farthest = max(farthest, aroundRing(x, expectStretch(t, y, d)))
		}
		if farthest != half {
			t.Errorf("squeezed to %d bits and stretched a number is up to %d off, want %d", d, farthest, half)
		}
	}
}

func TestStretchedAndSqueezedIsTheSame(t *testing.T) {
	for d := 1; d <= mostSqueezed; d++ {
		for y := range 1 << d {
			x := expectStretch(t, y, d)
			if x < 0 || x >= ringSize {
				t.Errorf("Stretch(%d, %d) = %d, which is not of the ring", y, d, x)
			}
			if got := expectSqueeze(t, x, d); got != y {
				t.Errorf("%d, stretched from %d bits to %d, is squeezed to %d", y, d, x, got)
			}
		}
	}
}

func expectNothingSqueezed(t *testing.T, n int, d int) {
	t.Helper()
	if x, y := expectSqueeze(t, n, d), expectStretch(t, n, d); x != 0 || y != 0 {
		t.Errorf("Squeeze and Stretch of %d with %d = %d, %d, want 0, 0", n, d, x, y)
	}
}

func TestSqueezedBeyondTheEnds(t *testing.T) {
	for _, d := range append(bitsThatAreRefused(), mostSqueezed+1, mostSqueezed+2) {
		for _, n := range []int{-1, 0, 1, 2, 833, 1664, 3328, 3329, math.MinInt, math.MaxInt} {
			expectNothingSqueezed(t, n, d)
		}
	}
	for d := 1; d <= mostSqueezed; d++ {
		for _, n := range []int{-1, -2, -ringSize, 1 - ringSize, ringSize, ringSize + 1, ringSize + 833, 2 * ringSize, 1 << 32, 1<<32 + 833, 1 << 53, 1 << 62, math.MinInt, math.MinInt + 833, math.MaxInt} {
			expectNothingSqueezed(t, n, d)
		}
		for _, y := range []int{1 << d, 1<<d + 1, 2<<d - 1, 2 << d, ringSize - 1} {
			if got := expectStretch(t, y, d); y >= 1<<d && got != 0 {
				t.Errorf("Stretch(%d, %d) = %d, want 0", y, d, got)
			}
		}
	}
}

func packedPolys() [][]int {
	list := rightPolys()
	draw := rand.New(rand.NewPCG(11, 2))
	for i := range ringDeg {
		list = append(list, onePower(1, i), onePower(2048, i), onePower(ringSize-1, i), drawPoly(draw))
	}
	for n := range ringSize {
		list = append(list, onePower(n, n%ringDeg), eachNumber(n))
	}
	return list
}

func TestPolysAsBytes(t *testing.T) {
	for _, p := range packedPolys() {
		s := expectPolyBytes(t, p)
		if packed, ok := impl.Pack(p, 12); len(s) != polySize || !ok || packed != s {
			t.Errorf("PolyBytes of %s = %d bytes %.40x, packed %.40x, %v", tellPoly(p), len(s), s, packed, ok)
		}
		got, ok := expectPolyFrom(t, s)
		if !ok || !impl.PolyOk(got) || !slices.Equal(got, p) {
			t.Errorf("%s comes back from its bytes as %s, %v", tellPoly(p), tellPoly(got), ok)
		}
		if again := impl.PolyBytes(got); again != s {
			t.Errorf("%s comes back from its bytes with others", tellPoly(p))
		}
	}
}

func TestWrongPolysHaveNoBytes(t *testing.T) {
	list := wrongTransforms()
	for n := ringSize; n < 4096; n++ {
		list = append(list, onePower(n, n%ringDeg))
	}
	for _, wrong := range list {
		if s := expectPolyBytes(t, wrong); s != "" {
			t.Errorf("PolyBytes of %s = %d bytes", tellPoly(wrong), len(s))
		}
	}
}

func TestBytesOfNoPoly(t *testing.T) {
	for _, p := range [][]int{make([]int, ringDeg), eachNumber(ringSize - 1), eachNumber(1)} {
		s := impl.PolyBytes(p)
		for _, size := range []int{0, 1, 32, 192, 382, 383} {
			expectNoPoly(t, fmt.Sprintf("%d bytes", size), s[:size])
			expectNoPoly(t, fmt.Sprintf("the last %d bytes", size), s[polySize-size:])
		}
		for _, behind := range []string{"\x00", "\x01", "\x00\x00", "\x00\x00\x00", strings.Repeat("\x00", 32), s} {
			expectNoPoly(t, fmt.Sprintf("%d bytes too many", len(behind)), s+behind)
			expectNoPoly(t, fmt.Sprintf("%d bytes too many ahead", len(behind)), behind+s)
		}
		for i := range ringDeg {
			for _, n := range []int{ringSize, ringSize + 1, 3584, 4094, 4095} {
				wrong := slices.Clone(p)
				wrong[i] = n
				packed, _ := modelPack(wrong, 12)
				expectNoPoly(t, fmt.Sprintf("%d at %d", n, i), packed)
			}
		}
	}
	expectNoPoly(t, "each bit", strings.Repeat("\xff", polySize))
}

func TestEachNumberOfTwelveBits(t *testing.T) {
	for n := range 4096 {
		for _, i := range []int{0, 1, 254, 255} {
			s, _ := modelPack(onePower(n, i), 12)
			if p, ok := expectPolyFrom(t, s); ok != (n < ringSize) || ok != (len(p) == ringDeg) {
				t.Errorf("%d at %d: PolyFrom = %s, %v", n, i, tellPoly(p), ok)
			}
		}
	}
}

func expectOwnLists(t *testing.T, what string, ask func() ([]int, bool)) {
	t.Helper()
	first, ok := ask()
	again, right := ask()
	if !ok || !right || len(first) == 0 || listsShare(first, again) {
		t.Fatalf("%s: an answer is none, or shares memory with another", what)
	}
	want := slices.Clone(again)
	for i := range first {
		first[i] = -5
	}
	if third, _ := ask(); !slices.Equal(again, want) || !slices.Equal(third, want) {
		t.Errorf("%s: what is written into an answer is seen in another", what)
	}
}

func TestPackedShareNoMemory(t *testing.T) {
	for bits := 1; bits <= mostBits; bits++ {
		for _, size := range []int{1, 7, 8, 9, 256} {
			list := slices.Repeat([]int{1}, size)
			s, _ := impl.Pack(list, bits)
			expectOwnLists(t, fmt.Sprintf("Unpack with %d bits", bits), func() ([]int, bool) { return impl.Unpack(s, bits, size) })
			// A text of one byte may be the runtime's own, which all such texts share.
			if again, _ := impl.Pack(list, bits); len(s) > 1 && sharesMemory(s, again) {
				t.Errorf("two answers of Pack with %d bits share memory", bits)
			}
			was := strings.Clone(s)
			if clear(list); s != was {
				t.Errorf("what is written into a list is seen in its Pack with %d bits", bits)
			}
		}
	}
	p := eachNumber(5)
	s := impl.PolyBytes(p)
	expectOwnLists(t, "PolyFrom", func() ([]int, bool) { return impl.PolyFrom(s) })
	if was := strings.Clone(s); sharesMemory(s, impl.PolyBytes(p)) || was != modelPolyBytes(p) {
		t.Error("two answers of PolyBytes share memory")
	}
	if clear(p); s != modelPolyBytes(eachNumber(5)) {
		t.Error("what is written into a polynomial is seen in its bytes")
	}
}

func TestPackingLeavesNothingBehind(t *testing.T) {
	draw := rand.New(rand.NewPCG(11, 3))
	p, q := drawPoly(draw), drawNumbers(draw, 100, 5)
	wantP, _ := modelPack(p, 12)
	wantQ, _ := modelPack(q, 5)
	var callers sync.WaitGroup
	for range 8 {
		callers.Go(func() {
			for range 20 {
				impl.Pack(p, 5)
				impl.Unpack(wantP, 5, 100)
				impl.PolyBytes(q)
				impl.PolyFrom(wantQ)
				back, ok := impl.PolyFrom(impl.PolyBytes(p))
				s, _ := impl.Pack(q, 5)
				list, right := impl.Unpack(wantQ, 5, len(q))
				if !ok || !right || s != wantQ || impl.PolyBytes(back) != wantP || !slices.Equal(list, q) {
					t.Errorf("an answer among many is another one")
				}
			}
		})
	}
	callers.Wait()
}
