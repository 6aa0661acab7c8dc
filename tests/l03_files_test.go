package tests

import (
	"fmt"
	"math"
	"math/rand/v2"
	"slices"
	"strings"
	"testing"
	"unsafe"

	"loop.example/g00186/impl"
)

var (
	mostText = strings.Repeat("\x00z", impl.MaxText/2)
	overText = mostText + "z"
)

const (
	mostName = "12345678"
	overName = "123456789"
)

func diskOf(files ...impl.File) impl.Disk {
	return impl.Disk{Files: files}
}

// filesUpTo are n files, f00, f01 and so on, each with its own text, half of which is kept.
func filesUpTo(n int) []impl.File {
	var list []impl.File
	for i := range n {
		list = append(list, impl.File{Name: fmt.Sprintf("f%02d", i), Text: strings.Repeat("t", i), Kept: i / 2})
	}
	return list
}

func sameDisk(a, b impl.Disk) bool {
	return slices.Equal(a.Files, b.Files)
}

// tell keeps what is said of a disk with long texts short.
func tell(d impl.Disk) string {
	var parts []string
	for _, f := range d.Files {
		parts = append(parts, fmt.Sprintf("%q: %.20q (%d bytes, %d kept)", f.Name, f.Text, len(f.Text), f.Kept))
	}
	return "[" + strings.Join(parts, "; ") + "]"
}

func tellAct(a impl.Act) string {
	return fmt.Sprintf("{%d %q %.20q (%d bytes) to %q}", a.Kind, a.Name, a.Text, len(a.Text), a.To)
}

// modelOk, modelAct and modelLose go by the chapter's words on plain lists.
func modelOk(d impl.Disk) bool {
	ok := len(d.Files) <= 30
	for i, f := range d.Files {
		ok = ok && len(f.Name) > 0 && len(f.Name) < 9 && len(f.Text) < 20001 && f.Kept > -1 && f.Kept <= len(f.Text)
		for _, other := range d.Files[:i] {
			ok = ok && strings.Compare(other.Name, f.Name) == -1
		}
	}
	return ok
}

func modelAct(d impl.Disk, a impl.Act) (impl.Disk, bool) {
	files := slices.Clone(d.Files)
	at := slices.IndexFunc(files, func(f impl.File) bool { return f.Name == a.Name })
	switch {
	case !modelOk(d), a.Kind < 1, a.Kind > 4, a.Kind != impl.ActMove && a.To != "", a.Kind != impl.ActAdd && a.Text != "":
		return impl.Disk{}, false
	case a.Kind == impl.ActAdd && at >= 0:
		files[at].Text += a.Text
	case a.Kind == impl.ActAdd:
		files = append(files, impl.File{Name: a.Name, Text: a.Text})
	case at < 0:
		return impl.Disk{}, false
	case a.Kind == impl.ActKeep:
		files[at].Kept = len(files[at].Text)
	case a.Kind == impl.ActDrop:
		files = slices.Delete(files, at, at+1)
	case a.To == a.Name, files[at].Kept != len(files[at].Text):
		return impl.Disk{}, false
	default:
		moved := files[at]
		moved.Name = a.To
		files = slices.DeleteFunc(files, func(f impl.File) bool { return f.Name == a.Name || f.Name == a.To })
		files = append(files, moved)
	}
	slices.SortFunc(files, func(f, g impl.File) int { return strings.Compare(f.Name, g.Name) })
	if out := diskOf(files...); modelOk(out) {
		return out, true
	}
	return impl.Disk{}, false
}

func modelActs(d impl.Disk, list []impl.Act) (impl.Disk, int) {
	for done, a := range list {
		next, ok := modelAct(d, a)
		if !ok {
			return d, done
		}
		d = next
	}
	return d, len(list)
}

func modelLose(d impl.Disk, left []int) (impl.Disk, bool) {
	if !modelOk(d) {
		return impl.Disk{}, false
	}
	var out impl.Disk
	for i, f := range d.Files {
		size := 0
		if i < len(left) && left[i] >= 0 {
			size = left[i]
		}
		if size > len(f.Text) {
			size = len(f.Text)
		}
		if size < f.Kept {
			size = f.Kept
		}
		out.Files = append(out.Files, impl.File{Name: f.Name, Text: f.Text[:size], Kept: size})
	}
	return out, true
}

func filesShare(a, b []impl.File) bool {
	a, b = a[:cap(a)], b[:cap(b)]
	if len(a) == 0 || len(b) == 0 {
		return false
	}
	first, other := uintptr(unsafe.Pointer(&a[0])), uintptr(unsafe.Pointer(&b[0]))
	size := unsafe.Sizeof(impl.File{})
	return first < other+size*uintptr(len(b)) && other < first+size*uintptr(len(a))
}

func textsOf(d impl.Disk) []string {
	var list []string
	for _, f := range d.Files {
		list = append(list, f.Name, f.Text)
	}
	return list
}

// expectOwn: the answer shares no memory with the disk, nor with the acts.
func expectOwn(t *testing.T, what string, got, d impl.Disk, acts ...impl.Act) {
	t.Helper()
	if filesShare(got.Files, d.Files) {
		t.Errorf("%s: the answer's files are those of its argument %s", what, tell(d))
	}
	given := textsOf(d)
	for _, a := range acts {
		given = append(given, a.Name, a.Text, a.To)
	}
	mine := textsOf(got)
	for i, s := range mine {
		for _, other := range slices.Concat(given, mine[:i]) {
			if sharesMemory(s, other) {
				t.Errorf("%s: %.20q of the answer shares memory with an argument or with another text of it", what, s)
			}
		}
	}
}

// guarded is the list with spare room behind it, and whether nothing was written into either since.
func guarded[E comparable](list []E, mark E) ([]E, func() bool) {
	whole := slices.Clone(list)
	for range 3 {
		whole = append(whole, mark)
	}
	was := slices.Clone(whole)
	return whole[:len(list)], func() bool { return slices.Equal(whole, was) }
}

// expectActs asks DoAct, DoActs and CutActs what the model answers, and that they leave their arguments alone.
func expectActs(t *testing.T, d impl.Disk, list []impl.Act, whole int, left []int) {
	t.Helper()
	files, filesStay := guarded(d.Files, impl.File{Name: "spare", Text: "room", Kept: 2})
	acts, actsStay := guarded(list, impl.Act{Kind: impl.ActDrop, Name: "spare"})
	told, toldStay := guarded(left, 7)
	given := diskOf(files...)
	for _, a := range acts {
		want, right := modelAct(given, a)
		got, ok := impl.DoAct(given, a)
		if ok != right || !sameDisk(got, want) {
			t.Errorf("DoAct(%s, %s) = %s, %v, want %s, %v", tell(given), tellAct(a), tell(got), ok, tell(want), right)
		}
		expectOwn(t, "DoAct", got, given, a)
	}
	want, count := modelActs(given, acts)
	got, done := impl.DoActs(given, acts)
	if done != count || !sameDisk(got, want) {
		t.Errorf("DoActs(%s, %d acts) = %s, %d, want %s, %d", tell(given), len(acts), tell(got), done, tell(want), count)
	}
	expectOwn(t, "DoActs", got, given, acts...)
	expectLost(t, given, told)
	expectCut(t, given, acts, whole, told)
	if !filesStay() || !actsStay() || !toldStay() {
		t.Errorf("an argument or its spare room was changed: %s, %d acts, left %v", tell(given), len(acts), told)
	}
}

func expectLost(t *testing.T, d impl.Disk, left []int) {
	t.Helper()
	want, right := modelLose(d, left)
	got, ok := impl.LoseDisk(d, left)
	if ok != right || !sameDisk(got, want) {
		t.Errorf("LoseDisk(%s, %v) = %s, %v, want %s, %v", tell(d), left, tell(got), ok, tell(want), right)
	}
	expectOwn(t, "LoseDisk", got, d)
	if ok {
		expectPromise(t, d, got)
	}
}

func expectCut(t *testing.T, d impl.Disk, list []impl.Act, whole int, left []int) {
	t.Helper()
	var want, behind impl.Disk
	right := false
	if whole >= 0 && whole <= len(list) {
		done := 0
		if behind, done = modelActs(d, list[:whole]); done == whole {
			want, right = modelLose(behind, left)
		}
	}
	got, ok := impl.CutActs(d, list, whole, left)
	if ok != right || !sameDisk(got, want) {
		t.Errorf("CutActs(%s, %d acts, %d, %v) = %s, %v, want %s, %v", tell(d), len(list), whole, left, tell(got), ok, tell(want), right)
	}
	expectOwn(t, "CutActs", got, d, list...)
	if ok {
		expectPromise(t, behind, got)
	}
}

// expectPromise: each file is still there, with a beginning of its text that has all that was kept of it.
func expectPromise(t *testing.T, d, lost impl.Disk) {
	t.Helper()
	if !impl.AllKept(lost) || len(lost.Files) != len(d.Files) {
		t.Errorf("of %s the power left %s", tell(d), tell(lost))
		return
	}
	for i, f := range d.Files {
		rest := lost.Files[i]
		if rest.Name != f.Name || !strings.HasPrefix(f.Text, rest.Text) || !strings.HasPrefix(rest.Text, f.Text[:f.Kept]) {
			t.Errorf("of %s the power left %s", tell(d), tell(lost))
		}
	}
}

func rightDisks() []impl.Disk {
	ascending := []string{"\x00", "\x00\x00", "1", "10", mostName, "2", "A", "B", "a", "a\x00", "a ", "ab", "b", "\x7f", "\x80", "é", "\xff", "\xff\xff\xff\xff\xff\xff\xff\xff"}
	var named impl.Disk
	for _, name := range ascending {
		named.Files = append(named.Files, impl.File{Name: name, Text: name, Kept: 1})
	}
	return []impl.Disk{
		{}, {Files: []impl.File{}}, named,
		diskOf(impl.File{Name: "a"}),
		diskOf(impl.File{Name: mostName, Text: "x"}),
		diskOf(impl.File{Name: "a", Text: "123"}),
		diskOf(impl.File{Name: "a", Text: "123", Kept: 1}),
		diskOf(impl.File{Name: "a", Text: "123", Kept: 3}),
		diskOf(impl.File{Name: "a", Text: mostText}),
		diskOf(impl.File{Name: "a", Text: mostText[1:], Kept: impl.MaxText - 1}, impl.File{Name: "b", Text: mostText, Kept: impl.MaxText}),
		diskOf(impl.File{Name: "a", Text: "12", Kept: 2}, impl.File{Name: "b", Text: "345", Kept: 3}, impl.File{Name: "c", Text: "6"}),
		diskOf(filesUpTo(impl.MaxFiles - 1)...), diskOf(filesUpTo(impl.MaxFiles)...),
	}
}

func wrongDisks() []impl.Disk {
	a, b := impl.File{Name: "a", Text: "12", Kept: 2}, impl.File{Name: "b", Text: "34", Kept: 1}
	last := func(f impl.File) impl.Disk { return diskOf(append(filesUpTo(impl.MaxFiles-1), f)...) }
	return []impl.Disk{
		diskOf(impl.File{}), diskOf(impl.File{Text: "12", Kept: 2}), diskOf(impl.File{Name: overName}), diskOf(impl.File{}, a),
		diskOf(impl.File{Name: "éééé" + "a"}), diskOf(impl.File{Name: strings.Repeat("n", 1000)}, a),
		diskOf(a, a), diskOf(b, a), diskOf(a, b, b), diskOf(a, b, a), diskOf(impl.File{Name: "ab"}, a), diskOf(impl.File{Name: "\x80"}, a),
		diskOf(impl.File{Name: "a", Text: overText}), diskOf(impl.File{Name: "a", Text: overText, Kept: impl.MaxText}), diskOf(a, impl.File{Name: "b", Text: overText + overText}),
		diskOf(impl.File{Name: "a", Kept: -1}), diskOf(impl.File{Name: "a", Text: "12", Kept: -1}), diskOf(a, impl.File{Name: "b", Text: "12", Kept: math.MinInt}),
		diskOf(impl.File{Name: "a", Kept: 1}), diskOf(impl.File{Name: "a", Text: "12", Kept: 3}), diskOf(impl.File{Name: "a", Text: "12", Kept: math.MaxInt}, b),
		diskOf(impl.File{Name: "a", Text: mostText, Kept: impl.MaxText + 1}),
		diskOf(filesUpTo(impl.MaxFiles + 1)...), diskOf(filesUpTo(90)...),
		last(impl.File{Name: "f28"}), last(impl.File{Name: "a"}), last(impl.File{Name: "z", Kept: 1}), last(impl.File{Name: "z23456789"}),
	}
}

func TestDiskOk(t *testing.T) {
	for _, d := range rightDisks() {
		if !impl.DiskOk(d) {
			t.Errorf("DiskOk(%s) = false", tell(d))
		}
	}
	for _, d := range wrongDisks() {
		if impl.DiskOk(d) {
			t.Errorf("DiskOk(%s) = true", tell(d))
		}
	}
}

func TestAllKept(t *testing.T) {
	full, empty, half := impl.File{Name: "a", Text: "12", Kept: 2}, impl.File{Name: "b"}, impl.File{Name: "c", Text: "12", Kept: 1}
	most := impl.File{Name: "d", Text: mostText, Kept: impl.MaxText}
	for _, d := range []impl.Disk{{}, diskOf(full), diskOf(empty), diskOf(full, empty, most)} {
		if !impl.AllKept(d) {
			t.Errorf("AllKept(%s) = false", tell(d))
		}
	}
	for _, d := range append(wrongDisks(), diskOf(half), diskOf(full, half), diskOf(half, most), diskOf(impl.File{Name: "c", Text: "1"}), diskOf(most, full)) {
		if impl.AllKept(d) {
			t.Errorf("AllKept(%s) = true", tell(d))
		}
	}
	for n := range impl.MaxFiles {
		files := filesUpTo(impl.MaxFiles)
		for i := range files {
			files[i].Text += "x"
			files[i].Kept = len(files[i].Text)
		}
		files[n].Kept--
		if impl.AllKept(diskOf(files...)) {
			t.Errorf("AllKept of files of which number %d is not kept", n)
		}
	}
}

func expectFile(t *testing.T, d impl.Disk, name, want string, there bool) {
	t.Helper()
	text, ok := impl.FileAt(d, name)
	if text != want || ok != there {
		t.Errorf("FileAt(%s, %q) = %.20q (%d bytes), %v", tell(d), name, text, len(text), ok)
	}
	for _, given := range append(textsOf(d), name) {
		if sharesMemory(text, given) {
			t.Errorf("FileAt(%s, %q) shares memory with its arguments", tell(d), name)
		}
	}
}

func TestFileAt(t *testing.T) {
	for _, d := range rightDisks() {
		for _, f := range d.Files {
			expectFile(t, d, f.Name, f.Text, true)
			expectFile(t, d, f.Name+"-", "", false)
		}
		for _, name := range []string{"", "none", overName, strings.Repeat("a", 1000)} {
			expectFile(t, d, name, "", false)
		}
	}
}

// The words of FileAt ask for no right disk.
func TestFileAtOfDisksNotRight(t *testing.T) {
	d := diskOf(impl.File{Name: "b", Text: "1"}, impl.File{Name: "a", Text: "2", Kept: 9}, impl.File{Name: "a", Text: "3"}, impl.File{Name: overName, Text: overText}, impl.File{Text: "4"})
	expectFile(t, d, "b", "1", true)
	expectFile(t, d, "a", "2", true)
	expectFile(t, d, overName, overText, true)
	expectFile(t, d, "", "4", true)
	expectFile(t, d, "c", "", false)
	expectFile(t, diskOf(filesUpTo(40)...), "f39", strings.Repeat("t", 39), true)
}

func TestDoActByHand(t *testing.T) {
	a, b, c := impl.File{Name: "a", Text: "12", Kept: 2}, impl.File{Name: "b", Text: "345", Kept: 1}, impl.File{Name: "c", Text: "67", Kept: 2}
	d := diskOf(a, b, c)
	for _, row := range []struct {
		act  impl.Act
		want impl.Disk
	}{
		{impl.Act{Kind: impl.ActAdd, Name: "b", Text: "xy"}, diskOf(a, impl.File{Name: "b", Text: "345xy", Kept: 1}, c)},
		{impl.Act{Kind: impl.ActAdd, Name: "a", Text: "x"}, diskOf(impl.File{Name: "a", Text: "12x", Kept: 2}, b, c)},
		{impl.Act{Kind: impl.ActAdd, Name: "b"}, d},
		{impl.Act{Kind: impl.ActAdd, Name: "bb", Text: "x"}, diskOf(a, b, impl.File{Name: "bb", Text: "x"}, c)},
		{impl.Act{Kind: impl.ActAdd, Name: "A"}, diskOf(impl.File{Name: "A"}, a, b, c)},
		{impl.Act{Kind: impl.ActAdd, Name: "z", Text: mostText}, diskOf(a, b, c, impl.File{Name: "z", Text: mostText})},
		{impl.Act{Kind: impl.ActKeep, Name: "b"}, diskOf(a, impl.File{Name: "b", Text: "345", Kept: 3}, c)},
		{impl.Act{Kind: impl.ActKeep, Name: "a"}, d},
		{impl.Act{Kind: impl.ActMove, Name: "a", To: "b"}, diskOf(impl.File{Name: "b", Text: "12", Kept: 2}, c)},
		{impl.Act{Kind: impl.ActMove, Name: "c", To: "a"}, diskOf(impl.File{Name: "a", Text: "67", Kept: 2}, b)},
		{impl.Act{Kind: impl.ActMove, Name: "a", To: mostName}, diskOf(impl.File{Name: mostName, Text: "12", Kept: 2}, b, c)},
		{impl.Act{Kind: impl.ActMove, Name: "a", To: "z"}, diskOf(b, c, impl.File{Name: "z", Text: "12", Kept: 2})},
		{impl.Act{Kind: impl.ActDrop, Name: "a"}, diskOf(b, c)},
		{impl.Act{Kind: impl.ActDrop, Name: "b"}, diskOf(a, c)},
	} {
		if got, ok := impl.DoAct(d, row.act); !ok || !sameDisk(got, row.want) {
			t.Errorf("DoAct of %s = %s, %v, want %s", tellAct(row.act), tell(got), ok, tell(row.want))
		}
		expectActs(t, d, []impl.Act{row.act}, 1, nil)
	}
}

func TestDoActRefuses(t *testing.T) {
	full := diskOf(filesUpTo(impl.MaxFiles)...)
	d := diskOf(impl.File{Name: "a", Text: "12", Kept: 2}, impl.File{Name: "b", Text: "345", Kept: 1}, impl.File{Name: "c", Text: mostText, Kept: 5})
	for _, row := range []struct {
		d   impl.Disk
		act impl.Act
	}{
		{d, impl.Act{}}, {d, impl.Act{Name: "a"}}, {d, impl.Act{Kind: 5, Name: "a"}}, {d, impl.Act{Kind: -1, Name: "a"}}, {d, impl.Act{Kind: math.MinInt, Name: "a"}}, {d, impl.Act{Kind: math.MaxInt, Name: "a"}},
		{d, impl.Act{Kind: impl.ActAdd, Name: "a", Text: "x", To: "b"}}, {d, impl.Act{Kind: impl.ActAdd, Name: "a", Text: "x", To: "a"}}, {d, impl.Act{Kind: impl.ActAdd, Name: "new", To: "z"}},
		{d, impl.Act{Kind: impl.ActAdd, Text: "x"}}, {d, impl.Act{Kind: impl.ActAdd}}, {d, impl.Act{Kind: impl.ActAdd, Name: overName, Text: "x"}}, {d, impl.Act{Kind: impl.ActAdd, Name: "new", Text: overText}},
		{d, impl.Act{Kind: impl.ActAdd, Name: "c", Text: "x"}}, {d, impl.Act{Kind: impl.ActAdd, Name: "a", Text: mostText}}, {d, impl.Act{Kind: impl.ActAdd, Name: "a", Text: mostText[1:]}},
		{full, impl.Act{Kind: impl.ActAdd, Name: "new"}}, {full, impl.Act{Kind: impl.ActAdd, Name: "zz", Text: "x"}},
		{d, impl.Act{Kind: impl.ActKeep, Name: "a", Text: "x"}}, {d, impl.Act{Kind: impl.ActKeep, Name: "a", To: "b"}}, {d, impl.Act{Kind: impl.ActKeep, Name: "none"}}, {d, impl.Act{Kind: impl.ActKeep}},
		{d, impl.Act{Kind: impl.ActMove, Name: "a", Text: "x", To: "z"}}, {d, impl.Act{Kind: impl.ActMove, Name: "b", To: "z"}}, {d, impl.Act{Kind: impl.ActMove, Name: "b", To: "a"}}, {d, impl.Act{Kind: impl.ActMove, Name: "c", To: "z"}},
		{d, impl.Act{Kind: impl.ActMove, Name: "a", To: "a"}}, {d, impl.Act{Kind: impl.ActMove, Name: "b", To: "b"}}, {d, impl.Act{Kind: impl.ActMove, Name: "none", To: "z"}}, {d, impl.Act{Kind: impl.ActMove, Name: "none", To: "a"}}, {d, impl.Act{Kind: impl.ActMove, Name: "none", To: "none"}},
		{d, impl.Act{Kind: impl.ActMove, Name: "a"}}, {d, impl.Act{Kind: impl.ActMove, Name: "a", To: overName}}, {d, impl.Act{Kind: impl.ActMove}}, {d, impl.Act{Kind: impl.ActMove, To: "a"}},
		{d, impl.Act{Kind: impl.ActDrop, Name: "a", Text: "x"}}, {d, impl.Act{Kind: impl.ActDrop, Name: "a", To: "b"}}, {d, impl.Act{Kind: impl.ActDrop, Name: "none"}}, {d, impl.Act{Kind: impl.ActDrop}},
		{impl.Disk{}, impl.Act{Kind: impl.ActKeep, Name: "a"}}, {impl.Disk{}, impl.Act{Kind: impl.ActMove, Name: "a", To: "b"}}, {impl.Disk{}, impl.Act{Kind: impl.ActDrop, Name: "a"}},
	} {
		if got, ok := impl.DoAct(row.d, row.act); ok || len(got.Files) != 0 {
			t.Errorf("DoAct(%s, %s) = %s, %v, want none", tell(row.d), tellAct(row.act), tell(got), ok)
		}
		good := impl.Act{Kind: impl.ActKeep, Name: "a"}
		expectActs(t, row.d, []impl.Act{good, row.act, good}, 2, nil)
	}
}

func TestDoActAtLimits(t *testing.T) {
	near := diskOf(impl.File{Name: "a", Text: mostText[2:], Kept: 4})
	e, ok := impl.DoAct(near, impl.Act{Kind: impl.ActAdd, Name: "a", Text: "xy"})
	if !ok || e.Files[0].Text != mostText[2:]+"xy" || e.Files[0].Kept != 4 {
		t.Errorf("ActAdd up to MaxText = %s, %v", tell(e), ok)
	}
	if _, ok := impl.DoAct(near, impl.Act{Kind: impl.ActAdd, Name: "a", Text: "xyz"}); ok {
		t.Error("ActAdd beyond MaxText is done")
	}
	for n := range impl.MaxFiles + 1 {
		got, ok := impl.DoAct(diskOf(filesUpTo(n)...), impl.Act{Kind: impl.ActAdd, Name: "e", Text: "x"})
		if ok != (n < impl.MaxFiles) || ok && len(got.Files) != n+1 {
			t.Errorf("ActAdd of a new file to %d = %d files, %v", n, len(got.Files), ok)
		}
	}
	full := filesUpTo(impl.MaxFiles)
	full[0].Kept = len(full[0].Text)
	list := []impl.Act{
		{Kind: impl.ActAdd, Name: "f29", Text: "more"}, {Kind: impl.ActKeep, Name: "f29"}, {Kind: impl.ActMove, Name: "f00", To: "new"},
		{Kind: impl.ActMove, Name: "f29", To: "new"}, {Kind: impl.ActAdd, Name: "newer"}, {Kind: impl.ActDrop, Name: "new"}, {Kind: impl.ActAdd, Name: "newest"}, {Kind: impl.ActAdd, Name: "too"},
	}
	expectActs(t, diskOf(full...), list, len(list)-1, nil)
	if got, done := impl.DoActs(diskOf(full...), list); done != len(list)-1 || len(got.Files) != impl.MaxFiles {
		t.Errorf("DoActs on a full disk = %d files, %d", len(got.Files), done)
	}
}

func TestWrongDisksAreRefused(t *testing.T) {
	list := []impl.Act{
		{Kind: impl.ActAdd, Name: "a", Text: "x"}, {Kind: impl.ActAdd, Name: "new"}, {Kind: impl.ActKeep, Name: "a"}, {Kind: impl.ActMove, Name: "a", To: "new"},
		{Kind: impl.ActMove, Name: "a", To: "b"}, {Kind: impl.ActDrop, Name: "a"}, {Kind: impl.ActDrop, Name: "f30"}, {Kind: impl.ActDrop, Name: "f28"}, {Kind: impl.ActDrop},
	}
	for _, d := range wrongDisks() {
		for i := range list {
			expectActs(t, d, list[i:], 1, []int{1, 2})
		}
		expectActs(t, d, nil, 0, nil)
		if got, done := impl.DoActs(d, list); done != 0 || !sameDisk(got, d) {
			t.Errorf("DoActs of a wrong disk %s = %s, %d", tell(d), tell(got), done)
		}
		if got, ok := impl.CutActs(d, list, 0, nil); ok || len(got.Files) != 0 {
			t.Errorf("CutActs of a wrong disk %s = %s, %v", tell(d), tell(got), ok)
		}
	}
}

func TestDoActsStopsAtTheFirstFalse(t *testing.T) {
	good := []impl.Act{
		{Kind: impl.ActAdd, Name: "b+", Text: "new"}, {Kind: impl.ActKeep, Name: "b+"}, {Kind: impl.ActMove, Name: "b+", To: "b"},
		{Kind: impl.ActAdd, Name: "b", Text: "er"}, {Kind: impl.ActDrop, Name: "a"}, {Kind: impl.ActAdd, Name: "a", Text: "again"},
	}
	d := diskOf(impl.File{Name: "a", Text: "old", Kept: 3}, impl.File{Name: "b", Text: "older"})
	want := diskOf(impl.File{Name: "a", Text: "again"}, impl.File{Name: "b", Text: "newer", Kept: 3})
	if got, done := impl.DoActs(d, good); done != len(good) || !sameDisk(got, want) {
		t.Errorf("DoActs = %s, %d, want %s", tell(got), done, tell(want))
	}
	for stop := range len(good) + 1 {
		for _, bad := range []impl.Act{{}, {Kind: impl.ActMove, Name: "b", To: "b"}, {Kind: impl.ActAdd, Name: "a", Text: overText}, {Kind: impl.ActAdd, Name: overName}} {
			list := slices.Insert(slices.Clone(good), stop, bad)
			want, _ := modelActs(d, good[:stop])
			if got, done := impl.DoActs(d, list); done != stop || !sameDisk(got, want) {
				t.Errorf("DoActs with a wrong act at %d = %s, %d, want %s", stop, tell(got), done, tell(want))
			}
			for whole := -1; whole <= len(list)+1; whole++ {
				expectActs(t, d, list, whole, []int{1, 1, 1})
			}
		}
	}
}

func TestLoseDiskByHand(t *testing.T) {
	d := diskOf(impl.File{Name: "a", Text: "12345", Kept: 2}, impl.File{Name: "b", Text: "678"}, impl.File{Name: "c", Text: "90", Kept: 2}, impl.File{Name: "d"})
	for _, row := range []struct {
		left  []int
		texts []string
	}{
		{nil, []string{"12", "", "90", ""}}, {[]int{}, []string{"12", "", "90", ""}},
		{[]int{0, 0, 0, 0}, []string{"12", "", "90", ""}}, {[]int{1, 1, 1, 1}, []string{"12", "6", "90", ""}},
		{[]int{2}, []string{"12", "", "90", ""}}, {[]int{3}, []string{"123", "", "90", ""}}, {[]int{4, 2}, []string{"1234", "67", "90", ""}},
		{[]int{5, 3, 2, 0}, []string{"12345", "678", "90", ""}}, {[]int{6, 4, 3, 1}, []string{"12345", "678", "90", ""}},
		{[]int{-1, -1, -1, -1}, []string{"12", "", "90", ""}}, {[]int{math.MinInt, math.MaxInt, math.MinInt, math.MaxInt}, []string{"12", "678", "90", ""}},
		{[]int{math.MaxInt, math.MinInt}, []string{"12345", "", "90", ""}}, {[]int{3, 2, 1, 0, 9, 9, -9}, []string{"123", "67", "90", ""}},
	} {
		got, ok := impl.LoseDisk(d, row.left)
		if !ok || len(got.Files) != len(row.texts) {
			t.Fatalf("LoseDisk(%v) = %s, %v", row.left, tell(got), ok)
		}
		for i, text := range row.texts {
			if want := (impl.File{Name: d.Files[i].Name, Text: text, Kept: len(text)}); got.Files[i] != want {
				t.Errorf("LoseDisk(%v) leaves %s", row.left, tell(got))
			}
		}
	}
	for _, d := range append(rightDisks(), wrongDisks()...) {
		for _, size := range []int{-1, 0, 1, 2, impl.MaxText - 1, impl.MaxText, impl.MaxText + 1} {
			expectActs(t, d, nil, 0, slices.Repeat([]int{size}, 29))
			expectActs(t, d, nil, 0, slices.Repeat([]int{size, 3}, 40))
		}
	}
}

func TestCutActsByHand(t *testing.T) {
	d := diskOf(impl.File{Name: "a", Text: "12", Kept: 2})
	list := []impl.Act{{Kind: impl.ActAdd, Name: "a", Text: "345"}, {Kind: impl.ActKeep, Name: "a"}, {Kind: impl.ActDrop, Name: "none"}}
	for _, row := range []struct {
		whole int
		left  []int
		want  string
		right bool
	}{
		{-1, nil, "", false}, {0, nil, "12", true}, {0, []int{9}, "12", true}, {1, nil, "12", true}, {1, []int{4}, "1234", true}, {1, []int{9}, "12345", true},
		{2, nil, "12345", true}, {2, []int{-1}, "12345", true}, {3, nil, "", false}, {4, nil, "", false}, {math.MinInt, nil, "", false}, {math.MaxInt, nil, "", false},
	} {
		got, ok := impl.CutActs(d, list, row.whole, row.left)
		text, there := impl.FileAt(got, "a")
		if ok != row.right || there != row.right || text != row.want {
			t.Errorf("CutActs of %d, %v = %s, %v", row.whole, row.left, tell(got), ok)
		}
	}
	all := list[:2]
	if got, ok := impl.CutActs(d, all, 2, nil); !ok || got.Files[0].Kept != 5 {
		t.Errorf("CutActs of all = %s, %v", tell(got), ok)
	}
	if got, ok := impl.CutActs(d, all, 3, nil); ok || len(got.Files) != 0 {
		t.Errorf("CutActs of one more than there are = %s, %v", tell(got), ok)
	}
	if got, ok := impl.CutActs(impl.Disk{}, nil, 0, nil); !ok || len(got.Files) != 0 {
		t.Errorf("CutActs of nothing = %s, %v", tell(got), ok)
	}
}

// Every act of a few names, texts and kinds on every disk above.
func TestEachActOnEachDisk(t *testing.T) {
	names := []string{"", "a", "b", "f00", "f29", "zz", mostName, overName}
	for _, d := range append(rightDisks(), wrongDisks()...) {
		var list []impl.Act
		for kind := -1; kind <= 6; kind++ {
			for _, name := range names {
				for _, to := range names {
					for _, text := range []string{"", "x"} {
						list = append(list, impl.Act{Kind: kind, Name: name, Text: text, To: to})
					}
				}
			}
		}
		expectActs(t, d, list, 0, []int{1})
	}
}

func drawDisk(draw *rand.Rand) impl.Disk {
	var d impl.Disk
	for _, name := range []string{"a", "ab", "b", "book", "book+", mostName, overName} {
		if draw.IntN(3) == 0 || name == overName && draw.IntN(20) > 0 {
			continue
		}
		text := strings.Repeat("0123456789", 3)[:draw.IntN(31)]
		if draw.IntN(20) == 0 {
			text = mostText[draw.IntN(3):]
		}
		kept := draw.IntN(len(text) + 1)
		if draw.IntN(3) == 0 {
			kept = len(text)
		}
		d.Files = append(d.Files, impl.File{Name: name, Text: text, Kept: kept})
	}
	slices.SortFunc(d.Files, func(f, g impl.File) int { return strings.Compare(f.Name, g.Name) })
	if draw.IntN(30) == 0 {
		slices.Reverse(d.Files)
	}
	return d
}

func drawActs(draw *rand.Rand, n int) []impl.Act {
	names := []string{"a", "ab", "b", "book", "book+", "c", mostName, "new"}
	one := func() string { return names[draw.IntN(len(names))] }
	var list []impl.Act
	for range n {
		a := impl.Act{Kind: 1 + draw.IntN(4), Name: one()}
		switch a.Kind {
		case impl.ActAdd:
			a.Text = "abcdefgh"[:draw.IntN(9)]
		case impl.ActMove:
			list = append(list, impl.Act{Kind: impl.ActKeep, Name: a.Name})
			a.To = one()
		}
		list = append(list, a)
	}
	return list
}

// Promise 3 in drawn lives: acts, the power goes, and again from what it left.
func TestDrawnActsAndFalls(t *testing.T) {
	draw := rand.New(rand.NewPCG(3, 3))
	for range 1500 {
		d := drawDisk(draw)
		for range 4 {
			list := drawActs(draw, draw.IntN(8))
			left := make([]int, draw.IntN(10))
			for i := range left {
				left[i] = draw.IntN(40) - 5
			}
			whole := draw.IntN(len(list)+3) - 1
			expectActs(t, d, list, whole, left)
			_, done := impl.DoActs(d, list)
			expectActs(t, d, list, done, left)
			if next, ok := impl.CutActs(d, list, done, left); ok {
				d = next
			}
		}
	}
}

func TestManyActs(t *testing.T) {
	var list []impl.Act
	for range impl.MaxText + 5 {
		list = append(list, impl.Act{Kind: impl.ActAdd, Name: "log", Text: "x"})
	}
	got, done := impl.DoActs(impl.Disk{}, list)
	if want := diskOf(impl.File{Name: "log", Text: strings.Repeat("x", impl.MaxText)}); done != impl.MaxText || !sameDisk(got, want) {
		t.Errorf("DoActs byte by byte = %s, %d", tell(got), done)
	}
}
