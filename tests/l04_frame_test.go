package tests

import (
	"encoding/binary"
	"fmt"
	"math"
	"math/rand/v2"
	"slices"
	"strings"
	"testing"

	"loop.example/g00186/impl"
)

// frameByBits puts the frame together by the chapter's words, of a text of any length.
func frameByBits(text string) string {
	return frameWith(binary.AppendUvarint(nil, uint64(len(text))), text)
}

// frameWith has the sum of its text, and ahead of it whatever bytes are told as the length.
func frameWith(size []byte, text string) string {
	return string(binary.BigEndian.AppendUint32(size, sumByBits(math.MaxUint32, text))) + text
}

func framesByBits(records []string) string {
	var file strings.Builder
	for _, record := range records {
		file.WriteString(frameByBits(record))
	}
	return file.String()
}

// modelUnframe tries each length that a record may have, instead of reading one.
func modelUnframe(file string) ([]string, int) {
	var records []string
	at := 0
	for len(file) <= 20000 {
		record, ok := modelRecord(file[at:])
		if !ok {
			break
		}
		records = append(records, record)
		at += len(frameByBits(record))
	}
	return records, at
}

func modelRecord(rest string) (string, bool) {
	for size := 1; size <= 9000; size++ {
		head := len(binary.AppendUvarint(nil, uint64(size))) + 4
		if head+size > len(rest) {
			break
		}
		begins := string(binary.AppendUvarint(nil, uint64(size)))
		if strings.HasPrefix(rest, begins) && strings.HasPrefix(rest, frameByBits(rest[head:head+size])) {
			return rest[head : head+size], true
		}
	}
	return "", false
}

// textOf are n bytes, of which no short stretch comes back soon.
func textOf(n int) string {
	text := make([]byte, n)
	for i := range text {
		text[i] = byte(i*7 + i/256)
	}
	return string(text)
}

func sizesAround() []int {
	return []int{1, 2, 3, 4, 5, 126, 127, 128, 129, 255, 256, 8999, 9000}
}

func recordsAround() []string {
	list := []string{"\x00", "\xff", "\x01\xff\xff\xff\xff\x00", frameByBits("in a frame"), strings.Repeat("\x00", 200), strings.Repeat("\xff", 200)}
	for _, size := range sizesAround() {
		list = append(list, textOf(size))
	}
	for _, sum := range sumsAround() {
		list = append(list, withSum("", sum), withSum("tick 1", sum))
	}
	return list
}

func tellRecords(records []string) string {
	var parts []string
	for _, record := range records[:min(len(records), 6)] {
		parts = append(parts, fmt.Sprintf("%.20q (%d bytes)", record, len(record)))
	}
	return fmt.Sprintf("%d records [%s]", len(records), strings.Join(parts, "; "))
}

func expectUnframed(t *testing.T, what, file string, want []string, end int) {
	t.Helper()
	got, behind := impl.Unframe(file)
	if !slices.Equal(got, want) || behind != end {
		t.Errorf("%s: Unframe of %d bytes %.20q = %s, %d, want %s, %d", what, len(file), file, tellRecords(got), behind, tellRecords(want), end)
	}
}

// expectFirst: of these records' frames, wrong from the one with this number on, just those ahead of it come back.
func expectFirst(t *testing.T, what, file string, records []string, number int) {
	t.Helper()
	ahead := records[:number]
	expectUnframed(t, what, file, ahead, len(framesByBits(ahead)))
}

func expectNoFrame(t *testing.T, what, file string) {
	t.Helper()
	expectUnframed(t, what, file, nil, 0)
	records := []string{"ahead", "\x00"}
	expectFirst(t, what+", behind two frames", framesByBits(records)+file, records, 2)
	expectFirst(t, what+", between frames", framesByBits(records)+file+framesByBits(records), records, 2)
}

func TestFrameBytes(t *testing.T) {
	for text, want := range map[string]string{
		"123456789":               "\x09\x78\xce\xaa\x89123456789",
		withSum("ab", 0):          "\x06\x00\x00\x00\x00" + withSum("ab", 0),
		withSum("ab", 0x01020304): "\x06\x01\x02\x03\x04" + withSum("ab", 0x01020304),
		withSum("ab", 4294967295): "\x06\xff\xff\xff\xff" + withSum("ab", 4294967295),
	} {
		if s, ok := impl.Frame(text); s != want || !ok {
			t.Errorf("Frame(%q) = %q, %v, want %q", text, s, ok, want)
		}
		expectUnframed(t, "by hand", want, []string{text}, len(want))
	}
	for size, want := range map[int]string{1: "\x01", 127: "\x7f", 128: "\x80\x01", 9000: "\xa8\x46"} {
		if s, ok := impl.Frame(textOf(size)); len(s) != len(want)+4+size || s[:len(want)] != want || !ok {
			t.Errorf("Frame of %d bytes = %d bytes %.8q, %v, want it to begin with %q", size, len(s), s, ok, want)
		}
	}
}

func TestFrameLimits(t *testing.T) {
	if impl.MaxRecord != 9000 {
		t.Errorf("MaxRecord = %d", impl.MaxRecord)
	}
	if s, ok := impl.Frame(textOf(9000)); len(s) != 9006 || !ok {
		t.Errorf("Frame of MaxRecord bytes = %d bytes, %v", len(s), ok)
	}
	for _, size := range []int{0, 9001, 9002, 16384, 19999, 20000, 20001, 100000} {
		if s, ok := impl.Frame(textOf(size)); s != "" || ok {
			t.Errorf("Frame of %d bytes = %d bytes, %v, want none", size, len(s), ok)
		}
	}
}

func TestEachRecordComesBack(t *testing.T) {
	for _, record := range recordsAround() {
		frame, ok := impl.Frame(record)
		if frame != frameByBits(record) || !ok {
			t.Errorf("Frame of %d bytes = %d bytes %.20q, %v", len(record), len(frame), frame, ok)
		}
		if sharesMemory(frame, record) {
			t.Errorf("Frame of %d bytes shares its argument's memory", len(record))
		}
		expectUnframed(t, "alone", frame, []string{record}, len(frame))
		expectUnframed(t, "twice", frame+frame, []string{record, record}, 2*len(frame))
	}
	for b := range 256 {
		record := string([]byte{byte(b)})
		expectUnframed(t, "of one byte", frameByBits(record), []string{record}, 6)
	}
}

func TestAllSizesComeBack(t *testing.T) {
	for size := 1; size <= 9000; size++ {
		record := textOf(size)
		frame, ok := impl.Frame(record)
		if !ok {
			t.Errorf("Frame of %d bytes is refused", size)
		}
		expectUnframed(t, "each size", frame, []string{record}, len(frame))
		expectUnframed(t, "each size, torn", frame[:len(frame)-1], nil, 0)
	}
}

func TestFilesAtTheirLimit(t *testing.T) {
	expectUnframed(t, "nothing", "", nil, 0)
	// 9006 bytes, twice, and 6 bytes beside the last record.
	most := []string{textOf(9000), strings.Repeat("\xff", 9000), textOf(1982)}
	full := framesByBits(most)
	if len(full) != 20000 {
		t.Fatalf("the full file has %d bytes", len(full))
	}
	expectUnframed(t, "MaxText of whole frames", full, most, 20000)
	expectUnframed(t, "one less", full[:19999], most[:2], 18012)
	expectUnframed(t, "one more behind it", full+"\x00", nil, 0)
	expectUnframed(t, "one more frame behind it", full+frameByBits("z"), nil, 0)
	expectUnframed(t, "one more in whole frames", framesByBits([]string{most[0], most[1], textOf(1983)}), nil, 0)
	expectUnframed(t, "many more", strings.Repeat(full, 5), nil, 0)
	short := frameByBits("z")
	for behind, want := range map[int]int{19994: 1, 19995: 0, 20000: 0, 50000: 0} {
		expectUnframed(t, "a short frame and others", short+strings.Repeat("\x00", behind), []string{"z"}[:want], 6*want)
	}
}

func TestManyShortFrames(t *testing.T) {
	var records []string
	for i := range 20000 / 6 {
		records = append(records, string([]byte{byte(i)}))
	}
	file := framesByBits(records)
	expectUnframed(t, "as many as there may be", file, records, 19998)
	expectUnframed(t, "and two bytes", file+"\x01\x00", records, 19998)
	expectUnframed(t, "and three bytes", file+"\x01\x00\x00", nil, 0)
}

// severalRecords are of each form: short and long lengths, sums and texts of ends and bits.
func severalRecords() []string {
	return []string{"one", "\x00", textOf(130), withSum("ab", 0x01020304), "\xff\xff\xff", textOf(127), frameByBits("in a frame"), "\x80"}
}

func wholeFrames(records []string, cut int) int {
	whole, end := 0, 0
	for _, record := range records {
		if end += len(frameByBits(record)); end > cut {
			break
		}
		whole++
	}
	return whole
}

func TestCutAtEveryPlace(t *testing.T) {
	for _, records := range [][]string{severalRecords(), {"a"}, {"a", "a", "a"}, recordsAround()[:12]} {
		file := framesByBits(records)
		for cut := range len(file) + 1 {
			expectFirst(t, fmt.Sprintf("cut at %d", cut), file[:cut], records, wholeFrames(records, cut))
		}
	}
}

func TestALongFileCutAtEveryPlace(t *testing.T) {
	records := []string{textOf(9000), textOf(1), textOf(300)}
	file := framesByBits(records)
	for cut := 0; cut <= len(file); cut++ {
		if cut > 20 && cut < 8980 && cut%37 != 0 {
			continue
		}
		expectFirst(t, fmt.Sprintf("cut at %d", cut), file[:cut], records, wholeFrames(records, cut))
	}
}

// The power goes while the last frames are on their way to the disk.
func TestFramesOnADiskThatFalls(t *testing.T) {
	records := severalRecords()
	kept := framesByBits(records[:3])
	file := framesByBits(records)
	disk := diskOf(impl.File{Name: "log", Text: file, Kept: len(kept)})
	for left := range len(file) + 1 {
		lost, ok := impl.LoseDisk(disk, []int{left})
		text, there := impl.FileAt(lost, "log")
		if !ok || !there {
			t.Fatalf("left %d: no file, %v", left, ok)
		}
		expectFirst(t, fmt.Sprintf("left %d", left), text, records, wholeFrames(records, max(left, len(kept))))
	}
}

func TestEachByteTurned(t *testing.T) {
	records := severalRecords()
	file := []byte(framesByBits(records))
	for place, was := range file {
		for turned := range 256 {
			if byte(turned) == was {
				continue
			}
			file[place] = byte(turned)
			expectFirst(t, fmt.Sprintf("byte %d turned to %d", place, turned), string(file), records, wholeFrames(records, place))
		}
		file[place] = was
	}
	expectFirst(t, "turned back", string(file), records, len(records))
}

// First, middle and last byte of the length, the sum and the text, in the first, a middle and the last frame.
func TestAPartOfALongFrameTurned(t *testing.T) {
	records := []string{textOf(6000), textOf(5999), textOf(5998)}
	for number := range records {
		start := len(framesByBits(records[:number]))
		size := len(records[number])
		for _, place := range []int{0, 1, 2, 3, 4, 5, 6, 7, size / 2, size + 3, size + 4, size + 5} {
			for _, turn := range []byte{1, 2, 16, 64, 128, 255} {
				file := []byte(framesByBits(records))
				file[start+place] ^= turn
				expectFirst(t, fmt.Sprintf("frame %d, byte %d", number, place), string(file), records, number)
			}
		}
	}
}

func TestLengthsInALongerForm(t *testing.T) {
	for _, record := range []string{"z", "one", textOf(127), textOf(128), textOf(9000)} {
		size := binary.AppendUvarint(nil, uint64(len(record)))
		expectFirst(t, "the short form", frameWith(size, record), []string{record}, 1)
		for more := range 12 {
			longer := slices.Clone(size)
			longer[len(longer)-1] |= 128
			for range more {
				longer = append(longer, 128)
			}
			expectNoFrame(t, fmt.Sprintf("a length of %d with %d bytes more", len(record), more+1), frameWith(append(longer, 0), record))
		}
	}
}

func TestALengthOfNothing(t *testing.T) {
	for _, size := range []string{"\x00", "\x80\x00", "\x80\x80\x00"} {
		expectNoFrame(t, "of no bytes", frameWith([]byte(size), ""))
		expectNoFrame(t, "of no bytes, others behind it", frameWith([]byte(size), "")+"z")
		expectNoFrame(t, "told as none", frameWith([]byte(size), "z"))
		expectNoFrame(t, "no sum", size)
		expectNoFrame(t, "a sum of 0", size+"\x00\x00\x00\x00")
	}
	expectNoFrame(t, "all 0", strings.Repeat("\x00", 100))
}

func TestLengthsBeyondTheLimit(t *testing.T) {
	for _, size := range []int{9001, 9002, 16383, 16384, 19900} {
		expectNoFrame(t, fmt.Sprintf("a record of %d bytes", size), frameByBits(textOf(size)))
	}
	expectUnframed(t, "a record beyond the limit in a full file", frameByBits(textOf(19993)), nil, 0)
	for _, size := range []uint64{9001, 20000, impl.MaxNumber, impl.MaxNumber + 1, 1 << 31, 1 << 32, 1<<32 + 3, 1 << 62, math.MaxInt64, 1 << 63, math.MaxUint64 - 2, math.MaxUint64} {
		expectNoFrame(t, fmt.Sprintf("a length of %d", size), frameWith(binary.AppendUvarint(nil, size), "one"))
		expectNoFrame(t, fmt.Sprintf("a length of %d alone", size), string(binary.AppendUvarint(nil, size)))
	}
	for _, n := range []int{1, 5, 9, 10, 11, 19900} {
		expectNoFrame(t, "a length without an end", strings.Repeat("\xff", n))
		expectUnframed(t, "a length without an end", strings.Repeat("\x80", n), nil, 0)
	}
}

func TestLengthsBeyondTheEnd(t *testing.T) {
	for _, size := range sizesAround() {
		frame := frameByBits(textOf(size))
		head := len(frame) - size
		for _, cut := range []int{1, head - 4, head - 1, head, head + size/2, len(frame) - 1} {
			if cut < len(frame) {
				expectUnframed(t, fmt.Sprintf("%d bytes of a frame of %d", cut, size), frame[:cut], nil, 0)
			}
		}
	}
	// The sum is that of what is there, the length is that of more.
	for more := 1; more < 10; more++ {
		expectUnframed(t, "a length that is too great", frameWith([]byte{byte(3 + more)}, "one"), nil, 0)
	}
	for less := 1; less < 3; less++ {
		expectNoFrame(t, "a length that is too little", frameWith([]byte{byte(3 - less)}, "one"))
	}
}

func TestBytesBehindTheLastFrame(t *testing.T) {
	records := severalRecords()
	file := framesByBits(records)
	expectFirst(t, "nothing behind it", file, records, len(records))
	for x := range 1 << 16 {
		behind := string([]byte{byte(x >> 8), byte(x)})
		if x < 256 {
			expectFirst(t, "a byte behind it", file+behind[1:], records, len(records))
		}
		if x%11 == 0 {
			expectFirst(t, "two bytes behind it", file+behind, records, len(records))
		}
	}
	for _, behind := range []string{"\n", "end of it", strings.Repeat("\x00", 99), strings.Repeat("\xff", 99), "one", file[1:], file[5:]} {
		expectFirst(t, "others behind it", file+behind, records, len(records))
		expectNoFrame(t, "others alone", behind)
	}
}

func TestOtherFormsAreNoFrames(t *testing.T) {
	for _, text := range []string{"one", "123456789", withSum("ab", 0x01020304)} {
		size := string([]byte{byte(len(text))})
		sum := sumByBits(math.MaxUint32, text)
		highest := string(binary.BigEndian.AppendUint32(nil, sum))
		for _, wrong := range []string{
			text, size + text, size + text + highest, highest + size + text, text + size + highest, highest + text,
			size + string(binary.LittleEndian.AppendUint32(nil, sum)) + text,
			size + string(binary.BigEndian.AppendUint32(nil, ^sum)) + text,
			size + string(binary.BigEndian.AppendUint32(nil, sumByBits(0, text))) + text,
			size + string(binary.BigEndian.AppendUint32(nil, sumByBits(math.MaxUint32, size+text))) + text,
		} {
			expectNoFrame(t, fmt.Sprintf("%q", wrong), wrong)
		}
	}
}

func TestFramesAreTheirOwnMemory(t *testing.T) {
	for _, records := range [][]string{severalRecords(), {"a", "a", "b", "b", "a"}, {textOf(9000), textOf(9000)}} {
		file := framesByBits(records)
		was := strings.Clone(file)
		got, _ := impl.Unframe(file)
		again, _ := impl.Unframe(file)
		if !slices.Equal(got, records) || !slices.Equal(again, records) || file != was {
			t.Errorf("Unframe = %s, then %s, want %s", tellRecords(got), tellRecords(again), tellRecords(records))
		}
		for i, record := range got {
			if sharesMemory(record, file) {
				t.Errorf("record %d shares memory with the file", i)
			}
			for j, other := range slices.Concat(got[:i], again) {
				if sharesMemory(record, other) {
					t.Errorf("records %d and %d share memory", i, j)
				}
			}
		}
		if len(got) > 0 && len(again) > 0 && &got[0] == &again[0] {
			t.Error("two answers are one list")
		}
	}
}

func drawRecords(draw *rand.Rand) []string {
	var records []string
	for range draw.IntN(6) {
		size := 1 + draw.IntN([]int{4, 140, 700}[draw.IntN(3)])
		record := make([]byte, size)
		for i := range record {
			record[i] = byte(draw.Uint32())
		}
		records = append(records, string(record))
	}
	return records
}

// drawFile is a file of frames that is cut, turned at a place, or made longer.
func drawFile(draw *rand.Rand, file string) string {
	bytes := []byte(file)
	place := draw.IntN(len(bytes) + 1)
	switch draw.IntN(5) {
	case 0:
		return file[:place]
	case 1:
		return file[place:]
	case 2:
		return file + file[place:]
	case 3:
		return file[:place] + string([]byte{byte(draw.Uint32())}) + file[place:]
	}
	if place < len(bytes) {
		bytes[place] ^= byte(1 << draw.IntN(8))
	}
	return string(bytes)
}

func TestDrawnFiles(t *testing.T) {
	draw := rand.New(rand.NewPCG(4, 11))
	for range 4000 {
		records := drawRecords(draw)
		file := framesByBits(records)
		expectFirst(t, "drawn", file, records, len(records))
		for range 3 {
			file = drawFile(draw, file)
			want, end := modelUnframe(file)
			expectUnframed(t, "drawn and changed", file, want, end)
		}
	}
}
