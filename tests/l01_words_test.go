package tests

import (
	"encoding/binary"
	"encoding/hex"
	"fmt"
	"math"
	"slices"
	"strings"
	"testing"
	"unsafe"

	"loop.example/g00186/impl"
)

// numbersAround are numbers at and beside every place where VarText grows, and at the ends of its range.
func numbersAround() []int {
	list := []int{0, 1, 2, 99, 300, 1000, impl.MaxText, impl.MaxNumber - 1, impl.MaxNumber}
	for edge := 128; edge <= impl.MaxNumber; edge *= 128 {
		list = append(list, edge-1, edge, edge+1)
	}
	return list
}

// textsAround are texts of every byte and of lengths at the edges.
func textsAround() []string {
	every := make([]byte, 256)
	for i := range every {
		every[i] = byte(i)
	}
	list := []string{"", "\x00", "a", "\xff\x80", "tick 1 2", string(every)}
	for _, n := range []int{127, 128, 129, 16383, 16384, impl.MaxText - 1, impl.MaxText} {
		list = append(list, strings.Repeat("\x80z", n)[:n])
	}
	return list
}

func sharesMemory(a, b string) bool {
	if a == "" || b == "" {
		return false
	}
	first := uintptr(unsafe.Pointer(unsafe.StringData(a)))
	other := uintptr(unsafe.Pointer(unsafe.StringData(b)))
	return first < other+uintptr(len(b)) && other < first+uintptr(len(a))
}

func expectNoVar(t *testing.T, text string, at int) {
	t.Helper()
	if n, end, ok := impl.ReadVar(text, at); n != 0 || end != 0 || ok {
		t.Errorf("ReadVar(%q, %d) = %d, %d, %v, want none", text, at, n, end, ok)
	}
}

func expectNoShort(t *testing.T, text string, at int) {
	t.Helper()
	if s, end, ok := impl.ReadShort(text, at); s != "" || end != 0 || ok {
		t.Errorf("ReadShort of %d bytes at %d = %d bytes, %d, %v, want none", len(text), at, len(s), end, ok)
	}
}

func TestVarTextIsReadBack(t *testing.T) {
	for _, n := range numbersAround() {
		s, ok := impl.VarText(n)
		if want := string(binary.AppendUvarint(nil, uint64(n))); !ok || s != want {
			t.Errorf("VarText(%d) = %q, %v, want %q", n, s, ok, want)
		}
		for _, ahead := range []string{"", "\x80", "ab"} {
			for _, behind := range []string{"", "\x00", "\xff\xff"} {
				got, end, right := impl.ReadVar(ahead+s+behind, len(ahead))
				if !right || got != n || end != len(ahead)+len(s) {
					t.Errorf("ReadVar of %d behind %q = %d, %d, %v", n, ahead, got, end, right)
				}
			}
		}
	}
}

func TestVarTextBytes(t *testing.T) {
	for n, want := range map[int]string{
		0: "\x00", 1: "\x01", 127: "\x7f", 128: "\x80\x01", 300: "\xac\x02", 16383: "\xff\x7f", 16384: "\x80\x80\x01",
		impl.MaxNumber: "\x80\x94\xeb\xdc\x03",
	} {
		if s, ok := impl.VarText(n); !ok || s != want {
			t.Errorf("VarText(%d) = %q, %v, want %q", n, s, ok, want)
		}
	}
}

func TestVarTextRefuses(t *testing.T) {
	for _, n := range []int{-1, -128, math.MinInt, impl.MaxNumber + 1, math.MaxInt} {
		if s, ok := impl.VarText(n); s != "" || ok {
			t.Errorf("VarText(%d) = %q, %v", n, s, ok)
		}
	}
}

func TestReadVarRefusesPlaces(t *testing.T) {
	for _, text := range []string{"", "\x05", "\xac\x02"} {
		for _, at := range []int{math.MinInt, -1, len(text), len(text) + 1, math.MaxInt} {
			expectNoVar(t, text, at)
		}
	}
}

func TestReadVarRefusesBytes(t *testing.T) {
	for _, text := range []string{
		"\x80\x00", "\x81\x00", "\xff\x00", "\xac\x82\x00", "\x80\x80\x80\x80\x00", "\xff\xff\xff\xff\x00", "\x80\x94\xeb\xdc\x83\x00",
		"\x80", "\xac", "\xff\xff", "\x80\x80\x80\x80", "\x80\x94\xeb\xdc",
		"\x81\x94\xeb\xdc\x03", "\x80\x94\xeb\xdc\x04", "\xff\xff\xff\xff\x7f", "\x80\x80\x80\x80\x80\x01", "\x85\x80\x80\x80\x80\x01",
		"\x80\x80\x80\x80\x80\x80\x80\x80\x80\x01", "\x85\x80\x80\x80\x80\x80\x80\x80\x80\x02",
		strings.Repeat("\x80", 30) + "\x01", strings.Repeat("\xff", 1000),
	} {
		expectNoVar(t, text, 0)
		expectNoVar(t, "\x07"+text, 1)
	}
}

// Every text of three bytes, against the same form of numbers in the library, which reads longer forms, too.
func TestReadVarOfAllShortBytes(t *testing.T) {
	for x := range 1 << 24 {
		text := string([]byte{byte(x >> 16), byte(x >> 8), byte(x)})
		want, size := binary.Uvarint([]byte(text))
		longer := size > 1 && text[max(size, 1)-1] == 0
		n, end, ok := impl.ReadVar(text, 0)
		if size <= 0 || longer {
			if n != 0 || end != 0 || ok {
				t.Fatalf("ReadVar(%q, 0) = %d, %d, %v, want none", text, n, end, ok)
			}
		} else if n != int(want) || end != size || !ok {
			t.Fatalf("ReadVar(%q, 0) = %d, %d, %v, want %d, %d", text, n, end, ok, want, size)
		}
	}
}

func TestShortTextIsReadBack(t *testing.T) {
	for _, s := range textsAround() {
		short, ok := impl.ShortText(s)
		if want := string(binary.AppendUvarint(nil, uint64(len(s)))) + s; !ok || short != want {
			t.Errorf("ShortText of %d bytes is wrong", len(s))
		}
		for _, behind := range []string{"", "\x00", "more"} {
			text := "\x80\x00" + short + behind
			got, end, right := impl.ReadShort(text, 2)
			if !right || got != s || end != 2+len(short) {
				t.Errorf("ReadShort of %d bytes = %d bytes, %d, %v", len(s), len(got), end, right)
			}
			if sharesMemory(got, text) {
				t.Errorf("ReadShort of %d bytes shares its argument's memory", len(s))
			}
		}
	}
}

func TestShortTextRefuses(t *testing.T) {
	for _, n := range []int{impl.MaxText + 1, 2 * impl.MaxText} {
		if s, ok := impl.ShortText(strings.Repeat("a", n)); s != "" || ok {
			t.Errorf("ShortText of %d bytes = %d bytes, %v", n, len(s), ok)
		}
	}
}

func TestReadShortRefuses(t *testing.T) {
	tooLong, _ := impl.VarText(impl.MaxText + 1)
	greatest, _ := impl.VarText(impl.MaxNumber)
	for _, text := range []string{
		"", "\x01", "\x03ab", "\x80", "\x80\x00", "\x81\x00a", "\x80\x80\x00", "\x80\x01" + strings.Repeat("a", 127),
		tooLong + strings.Repeat("a", impl.MaxText+1), greatest + "a", "\x81\x94\xeb\xdc\x03a",
	} {
		expectNoShort(t, text, 0)
	}
	for _, at := range []int{math.MinInt, -1, 4, 5, math.MaxInt} {
		expectNoShort(t, "\x03abc", at)
	}
	if s, end, ok := impl.ReadShort("abc\x00", 3); s != "" || end != 4 || !ok {
		t.Errorf("ReadShort of an empty text = %q, %d, %v", s, end, ok)
	}
}

func TestHexIsReadBack(t *testing.T) {
	for _, s := range textsAround() {
		figures, ok := impl.Hex(s)
		if !ok || figures != hex.EncodeToString([]byte(s)) {
			t.Errorf("Hex of %d bytes is wrong", len(s))
		}
		if back, right := impl.Unhex(figures); !right || back != s {
			t.Errorf("Unhex of Hex of %d bytes is another text", len(s))
		}
	}
	if s, ok := impl.Hex("\x00\x0f\xa0\xff"); s != "000fa0ff" || !ok {
		t.Errorf("Hex = %q, %v", s, ok)
	}
}

func TestHexRefuses(t *testing.T) {
	if s, ok := impl.Hex(strings.Repeat("a", impl.MaxText+1)); s != "" || ok {
		t.Errorf("Hex of a text too long = %d bytes, %v", len(s), ok)
	}
}

func TestUnhexRefuses(t *testing.T) {
	for _, text := range []string{
		"0", "a", "abc", "0g", "g0", "A0", "0A", "F0", "0F", " 0", "0 ", "-1", "0x", "00zz", "zz00", "0\x00", "\xff0", "00é",
		strings.Repeat("00", impl.MaxText+1), strings.Repeat("0", 2*impl.MaxText+1), strings.Repeat("0", 2*impl.MaxText-1) + "G",
	} {
		if s, ok := impl.Unhex(text); s != "" || ok {
			t.Errorf("Unhex of %d bytes = %q, %v", len(text), s, ok)
		}
	}
}

func TestUnhexOfAllPairs(t *testing.T) {
	for x := range 1 << 16 {
		text := string([]byte{byte(x >> 8), byte(x)})
		high, low := strings.IndexByte("0123456789abcdef", text[0]), strings.IndexByte("0123456789abcdef", text[1])
		want, right := "", high >= 0 && low >= 0
		if right {
			want = string([]byte{byte(16*high + low)})
		}
		if s, ok := impl.Unhex(text); s != want || ok != right {
			t.Fatalf("Unhex(%q) = %q, %v", text, s, ok)
		}
	}
}

func TestDecimalIsReadBack(t *testing.T) {
	list := numbersAround()
	for ten := 10; ten <= impl.MaxNumber; ten *= 10 {
		list = append(list, ten-1, ten)
	}
	for n := range 2000 {
		list = append(list, n)
	}
	for _, n := range list {
		if got, ok := impl.ReadDecimal(impl.Decimal(n)); !ok || got != n {
			t.Errorf("ReadDecimal of Decimal of %d = %d, %v", n, got, ok)
		}
	}
}

func TestDecimalFigures(t *testing.T) {
	for n, want := range map[int]string{
		0: "0", 7: "7", 10: "10", 100: "100", -5: "-5", -10: "-10", impl.MaxNumber: "1000000000",
		math.MaxInt: "9223372036854775807", math.MinInt: "-9223372036854775808", math.MinInt + 1: "-9223372036854775807",
	} {
		if s := impl.Decimal(n); s != want {
			t.Errorf("Decimal(%d) = %q", n, s)
		}
	}
	for n := -1200; n <= 1200; n++ {
		if s := impl.Decimal(n); s != fmt.Sprint(n) {
			t.Errorf("Decimal(%d) = %q", n, s)
		}
	}
}

func TestReadDecimalRefuses(t *testing.T) {
	for _, text := range []string{
		"", "00", "01", "007", "-0", "-1", "+1", "+0", "-", "+", " 1", "1 ", "1 2", "1a", "a", "a1", "1_0", "1.0", "0x1", "1e3", "1\x00", "٣", "/", ":", "1/", "1:",
		"1000000001", "1000000010", "9999999999", "10000000000", "01000000000", "9223372036854775807", "9223372036854775808",
		"18446744073709551616", "18446744073709551621", "10000000000a", impl.Decimal(math.MinInt), strings.Repeat("9", 5000), "1" + strings.Repeat("0", 64),
	} {
		if n, ok := impl.ReadDecimal(text); n != 0 || ok {
			t.Errorf("ReadDecimal(%q) = %d, %v", text, n, ok)
		}
	}
}

func TestPartsOf(t *testing.T) {
	most := make([]string, impl.MaxParts)
	for i := range most {
		most[i] = impl.Decimal(i)
	}
	full := strings.Repeat("x", impl.MaxWords)
	for line, want := range map[string][]string{
		"": nil, " ": nil, "    ": nil, strings.Repeat(" ", impl.MaxWords): nil,
		"a": {"a"}, " a": {"a"}, "a ": {"a"}, "a b": {"a", "b"}, "a   b": {"a", "b"}, " tick  1 2 ": {"tick", "1", "2"},
		"!\"#$ ~}|": {"!\"#$", "~}|"}, "a a a": {"a", "a", "a"}, "A,b;c": {"A,b;c"},
		strings.Join(most, " "): most, "  " + strings.Join(most, "   ") + "  ": most,
		full: {full}, "a " + full[2:]: {"a", full[2:]}, full[1:] + " ": {full[1:]},
	} {
		parts, ok := impl.PartsOf(line)
		if !ok || !slices.Equal(parts, want) {
			t.Errorf("PartsOf(%q) = %q, %v", line, parts, ok)
		}
		for _, part := range parts {
			if sharesMemory(part, line) {
				t.Errorf("PartsOf(%q) shares its argument's memory", line)
			}
		}
	}
}

func TestPartsOfAllBytes(t *testing.T) {
	for x := range 256 {
		c := string([]byte{byte(x)})
		for _, line := range []string{c, "a" + c, c + "a", "a " + c + " b"} {
			parts, ok := impl.PartsOf(line)
			if want := x >= 32 && x <= 126; ok != want || !ok && len(parts) != 0 {
				t.Errorf("PartsOf(%q) = %q, %v", line, parts, ok)
			}
		}
	}
}

func TestPartsOfRefuses(t *testing.T) {
	for _, line := range []string{
		strings.Repeat("x", impl.MaxWords+1), strings.Repeat(" ", impl.MaxWords+1), strings.Repeat("x", impl.MaxWords) + " ",
		strings.Repeat("a ", impl.MaxParts+1), strings.Repeat("a ", impl.MaxParts) + "b", strings.Repeat("a ", 300),
		"a\tb", "a\nb", "a\n", "\r", "a\x1fb", "a\x7fb", "a\x80", "é", "a\u00a0b", "a\u0085b", "\x00",
	} {
		if parts, ok := impl.PartsOf(line); len(parts) != 0 || ok {
			t.Errorf("PartsOf(%q) = %q, %v", line, parts, ok)
		}
	}
}
