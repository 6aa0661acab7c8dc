package impl

import (
	"strconv"
	"strings"
)

const (
	MaxText   = 20000
	MaxNumber = 1000000000
	MaxWords  = 600
	MaxParts  = 10
)

func VarText(n int) (string, bool) {
	if n < 0 || n > MaxNumber {
		return "", false
	}
	var out []byte
	for ; n > 127; n /= 128 {
		out = append(out, byte(n%128+128))
	}
	return string(append(out, byte(n))), true
}

func ReadVar(text string, at int) (int, int, bool) {
	if at < 0 || at > len(text) {
		return 0, 0, false
	}
	n := 0
	// Beyond a unit of MaxNumber any further byte is too great or a longer form, so the sum cannot overflow.
	for i, unit := at, 1; i < len(text) && unit <= MaxNumber; i, unit = i+1, unit*128 {
		b := int(text[i])
		n += b % 128 * unit
		if b > 127 {
			continue
		}
		longer := b == 0 && i > at
		if longer || n > MaxNumber {
			return 0, 0, false
		}
		return n, i + 1, true
	}
	return 0, 0, false
}

func ShortText(s string) (string, bool) {
	if len(s) > MaxText {
		return "", false
	}
	size, ok := VarText(len(s))
	return size + s, ok
}

func ReadShort(text string, at int) (string, int, bool) {
	size, start, ok := ReadVar(text, at)
	if !ok || size > MaxText || size > len(text)-start {
		return "", 0, false
	}
	// A slice of text would share its memory with the answer.
	return strings.Clone(text[start : start+size]), start + size, true
}

func Hex(text string) (string, bool) {
	if len(text) > MaxText {
		return "", false
	}
	const figures = "0123456789abcdef"
	out := make([]byte, 0, 2*len(text))
	for i := 0; i < len(text); i++ {
		out = append(out, figures[text[i]/16], figures[text[i]%16])
	}
	return string(out), true
}

func Unhex(text string) (string, bool) {
	if len(text)%2 != 0 || len(text) > 2*MaxText {
		return "", false
	}
	out := make([]byte, 0, len(text)/2)
	high := byte(0)
figures:
	for i := 0; i < len(text); i++ {
		half, ok := halfByte(text[i])
		switch {
		case !ok:
			return "", false
		case i%2 == 0:
			high = half
			continue figures
		}
		out = append(out, 16*high+half)
	}
	return string(out), true
}

func halfByte(figure byte) (byte, bool) {
	switch {
	case figure >= '0' && figure <= '9':
		return figure - '0', true
	case figure >= 'a' && figure <= 'f':
		return figure - 'a' + 10, true
	}
	return 0, false
}

func Decimal(n int) string {
	return strconv.Itoa(n)
}

func ReadDecimal(text string) (int, bool) {
	needless := len(text) > 1 && text[0] == '0'
	if text == "" || needless {
		return 0, false
	}
	n, read := 0, 0
figures:
	for ; read < len(text); read++ {
		figure := text[read]
		switch {
		case figure < '0' || figure > '9':
			break figures
		case n > MaxNumber:
			// Left ahead of the next figure, a number of any length cannot overflow.
			break figures
		}
		n = 10*n + int(figure-'0')
	}
	if read < len(text) || n > MaxNumber {
		return 0, false
	}
	return n, true
}

func PartsOf(line string) ([]string, bool) {
	if len(line) > MaxWords || !isPrintable(line) {
		return nil, false
	}
	// Of the bytes that strings.Fields splits at, a printable line has the blank alone.
	parts := strings.Fields(line)
	if len(parts) > MaxParts {
		return nil, false
	}
	for i, part := range parts {
		parts[i] = strings.Clone(part)
	}
	return parts, true
}

func isPrintable(line string) bool {
	for i := 0; i < len(line); i++ {
		if line[i] < 32 || line[i] > 126 {
			return false
		}
	}
	return true
}
