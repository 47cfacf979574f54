package disk_test

import (
	"math"
	"slices"
	"strings"
	"testing"
	"unsafe"

	"hedgerow/api"
	"hedgerow/disk"
)

// held is a file as it should be.
type held struct {
	name, s string
	sure    int
}

// model is a disk by the chapter's words: files by their rising names, and how many bytes it takes, -1 for as many as come.
type model struct {
	l     []held
	takes int
	dead  bool
}

func newModel() *model { return &model{takes: -1} }

func isName(name string) bool { return len(name) > 0 && len(name) <= 32 }

// at is where a file stands, -1 if it is not there.
func (m *model) at(name string) int {
	return slices.IndexFunc(m.l, func(f held) bool { return f.name == name })
}

func (m *model) sort() {
	slices.SortFunc(m.l, func(a, b held) int { return strings.Compare(a.name, b.name) })
}

func (m *model) copy() *model {
	return &model{slices.Clone(m.l), m.takes, m.dead}
}

func (m *model) Append(name, s string) api.Errno {
	if !isName(name) {
		return api.ErrArg
	}
	if m.dead {
		return api.ErrDown
	}
	i := m.at(name)
	if i < 0 && len(m.l) == 64 || i < 0 && len(s) > 1<<22 || i >= 0 && len(m.l[i].s)+len(s) > 1<<22 {
		return api.ErrFull
	}
	if i < 0 {
		m.l = append(m.l, held{name, "", 0})
		i = len(m.l) - 1
	}
	e := api.OK
	if m.takes >= 0 {
		if len(s) > m.takes {
			s, m.dead, e = s[:m.takes], true, api.ErrDown
		}
		m.takes -= len(s)
	}
	m.l[i].s += s
	m.sort()
	return e
}

// first is the error of a call that changes a file that must be there.
func (m *model) first(name string) api.Errno {
	switch {
	case !isName(name):
		return api.ErrArg
	case m.dead:
		return api.ErrDown
	case m.at(name) < 0:
		return api.ErrNone
	}
	return api.OK
}

func (m *model) Sync(name string) api.Errno {
	e := m.first(name)
	if e == api.OK {
		f := &m.l[m.at(name)]
		f.sure = len(f.s)
	}
	return e
}

func (m *model) Truncate(name string, n int) api.Errno {
	e := m.first(name)
	if e != api.OK {
		return e
	}
	f := &m.l[m.at(name)]
	if n < 0 || n > len(f.s) {
		return api.ErrRange
	}
	f.s = f.s[:n]
	f.sure = min(f.sure, n)
	return api.OK
}

func (m *model) Rename(name, to string) api.Errno {
	e := m.first(name)
	switch {
	case e != api.OK:
		return e
	case !isName(to):
		return api.ErrArg
	case m.at(to) >= 0:
		return api.ErrThere
	}
	m.l[m.at(name)].name = to
	m.sort()
	return api.OK
}

func (m *model) Remove(name string) api.Errno {
	e := m.first(name)
	if e == api.OK {
		m.l = slices.Delete(m.l, m.at(name), m.at(name)+1)
	}
	return e
}

func (m *model) Cut(n int) {
	if !m.dead {
		m.takes = max(n, 0)
	}
}

func (m *model) Crash(keep int) {
	for i := range m.l {
		f := &m.l[i]
		if keep < 0 {
			f.s = f.s[:f.sure]
		} else if keep < len(f.s)-f.sure {
			f.s = f.s[:f.sure+keep]
		}
		f.sure = len(f.s)
	}
	m.takes, m.dead = -1, false
}

// changer is what changes a disk, or a model of one.
type changer interface {
	Append(name, s string) api.Errno
	Sync(name string) api.Errno
	Truncate(name string, n int) api.Errno
	Rename(name, to string) api.Errno
	Remove(name string) api.Errno
	Cut(n int)
	Crash(keep int)
}

// mustHave says so if a disk has not just these files, given by rising names.
func mustHave(t *testing.T, d *disk.Disk, want ...held) {
	t.Helper()
	var names []string
	for _, f := range want {
		names = append(names, f.name)
		if s, e := d.Read(f.name); s != f.s || e != api.OK {
			t.Errorf("Read(%q): %s, %d; want %s", f.name, short(s), e, short(f.s))
		}
		if n, sure, e := d.Size(f.name); n != len(f.s) || sure != f.sure || e != api.OK {
			t.Errorf("Size(%q): %d, %d, %d; want %d, %d", f.name, n, sure, e, len(f.s), f.sure)
		}
	}
	if l := d.Files(); !slices.Equal(l, names) {
		t.Errorf("Files: %q, want %q", l, names)
	}
}

// short is a text as it is told.
func short(s string) string {
	if len(s) > 40 {
		return s[:40] + ".."
	}
	return "'" + s + "'"
}

// mustLack says so if a name is not refused by this error, with nothing beside it, by what only tells.
func mustLack(t *testing.T, d *disk.Disk, name string, want api.Errno) {
	t.Helper()
	if s, e := d.Read(name); s != "" || e != want {
		t.Errorf("Read(%q): %s, %d; want the error %d", name, short(s), e, want)
	}
	if n, sure, e := d.Size(name); n != 0 || sure != 0 || e != want {
		t.Errorf("Size(%q): %d, %d, %d; want the error %d", name, n, sure, e, want)
	}
}

// must says so if an answer is another one.
func must(t *testing.T, what string, got, want api.Errno) {
	t.Helper()
	if got != want {
		t.Errorf("%s: %d, want %d", what, got, want)
	}
}

// laid makes a disk with these files.
func laid(t *testing.T, l ...held) *disk.Disk {
	t.Helper()
	d := disk.New()
	for _, f := range l {
		must(t, "Append", d.Append(f.name, f.s[:f.sure]), api.OK)
		must(t, "Sync", d.Sync(f.name), api.OK)
		must(t, "Append", d.Append(f.name, f.s[f.sure:]), api.OK)
	}
	return d
}

// numbered are n names, rising.
func numbered(n int) []string {
	var l []string
	for i := range n {
		l = append(l, string([]byte{'f', byte('0' + i/10), byte('0' + i%10)}))
	}
	return l
}

// full makes a disk with as many files as there may be, each with its name as its bytes.
func full(t *testing.T) *disk.Disk {
	t.Helper()
	d := disk.New()
	for _, name := range numbered(api.MaxFiles) {
		must(t, "Append", d.Append(name, name), api.OK)
	}
	return d
}

// noNames are texts that are none; names are some that are.
func noNames() []string {
	return []string{"", strings.Repeat("a", api.MaxName+1), strings.Repeat("\x00", api.MaxName+1), strings.Repeat("é", 17), strings.Repeat("a", 1000)}
}

func names() []string {
	l := []string{"a", "ab", "A", " ", "log.00000000", "\x00", "\xff", "\x00\x00", "a\x00", "/", "..", "é", "\xff\xfe", strings.Repeat("a", api.MaxName-1), strings.Repeat("a", api.MaxName), strings.Repeat("\xff", api.MaxName), strings.Repeat("é", 16)}
	for b := range 256 {
		l = append(l, string([]byte{byte(b)}), string([]byte{'n', byte(b), 'n'}))
	}
	slices.Sort(l)
	return slices.Compact(l)
}

// 6.1

func TestNew(t *testing.T) {
	d := disk.New()
	if d == nil || d.Dead() {
		t.Fatal(d)
	}
	mustHave(t, d)
	mustLack(t, d, "a", api.ErrNone)
	d.Append("a", "x")
	mustHave(t, disk.New())
}

func TestAppend(t *testing.T) {
	d := disk.New()
	for _, s := range []string{"ab", "", "c", "\x00\xff\x80", "ab"} {
		must(t, "Append", d.Append("a", s), api.OK)
		must(t, "Append", d.Append("b", s+s), api.OK)
	}
	mustHave(t, d, held{"a", "abc\x00\xff\x80ab", 0}, held{"b", "ababcc\x00\xff\x80\x00\xff\x80abab", 0})
}

func TestAppendOfNoByte(t *testing.T) {
	d := disk.New()
	must(t, "Append", d.Append("a", ""), api.OK)
	mustHave(t, d, held{"a", "", 0})
	must(t, "Sync", d.Sync("a"), api.OK)
	must(t, "Append", d.Append("a", ""), api.OK)
	mustHave(t, d, held{"a", "", 0})
	d.Crash(0)
	mustHave(t, d, held{"a", "", 0}) // a file without bytes, synced or not, outlives a crash
	must(t, "Append", d.Append("b", ""), api.OK)
	d.Crash(-1)
	mustHave(t, d, held{"a", "", 0}, held{"b", "", 0})
}

func TestNames(t *testing.T) {
	for _, name := range names() {
		d := disk.New()
		mustLack(t, d, name, api.ErrNone)
		must(t, "Append", d.Append(name, "xy"), api.OK)
		must(t, "Sync", d.Sync(name), api.OK)
		must(t, "Truncate", d.Truncate(name, 1), api.OK)
		mustHave(t, d, held{name, "x", 1})
		must(t, "Rename", d.Rename(name, "other"), api.OK)
		mustHave(t, d, held{"other", "x", 1})
		must(t, "Rename", d.Rename("other", name), api.OK)
		mustHave(t, d, held{name, "x", 1})
		must(t, "Remove", d.Remove(name), api.OK)
		mustHave(t, d)
	}
}

func TestNoNames(t *testing.T) {
	d := laid(t, held{"a", "xy", 1})
	for _, name := range noNames() {
		must(t, "Append", d.Append(name, "x"), api.ErrArg)
		must(t, "Append", d.Append(name, ""), api.ErrArg)
		must(t, "Append", d.Append(name, strings.Repeat("x", api.MaxFile+1)), api.ErrArg)
		must(t, "Sync", d.Sync(name), api.ErrArg)
		must(t, "Truncate", d.Truncate(name, 0), api.ErrArg)
		must(t, "Truncate", d.Truncate(name, -1), api.ErrArg)
		must(t, "Rename", d.Rename(name, "b"), api.ErrArg)
		must(t, "Rename", d.Rename(name, "a"), api.ErrArg)
		must(t, "Rename", d.Rename("a", name), api.ErrArg)
		must(t, "Remove", d.Remove(name), api.ErrArg)
		mustLack(t, d, name, api.ErrArg)
		mustHave(t, d, held{"a", "xy", 1})
	}
}

func TestAppendToTheEndOfAFile(t *testing.T) {
	most := strings.Repeat("x", api.MaxFile)
	d := disk.New()
	must(t, "one byte too many", d.Append("a", most+"y"), api.ErrFull)
	must(t, "twice too many", d.Append("a", most+most), api.ErrFull)
	mustHave(t, d) // what was refused made no file
	must(t, "all", d.Append("a", most), api.OK)
	mustHave(t, d, held{"a", most, 0})
	must(t, "one byte more", d.Append("a", "y"), api.ErrFull)
	must(t, "no byte", d.Append("a", ""), api.OK)
	mustHave(t, d, held{"a", most, 0})
	must(t, "of another file", d.Append("b", "y"), api.OK)
	must(t, "Truncate", d.Truncate("a", api.MaxFile-1), api.OK)
	must(t, "two bytes", d.Append("a", "yz"), api.ErrFull)
	must(t, "the last byte", d.Append("a", "y"), api.OK)
	mustHave(t, d, held{"a", most[1:] + "y", 0}, held{"b", "y", 0})
}

func TestAppendSeveralToTheEndOfAFile(t *testing.T) {
	d := disk.New()
	want := ""
	for i := range 4 {
		s := strings.Repeat(string([]byte{byte('a' + i)}), api.MaxFile/4)
		must(t, "Append", d.Append("a", s), api.OK)
		want += s
	}
	must(t, "one byte more", d.Append("a", "y"), api.ErrFull)
	must(t, "many more", d.Append("a", want), api.ErrFull)
	mustHave(t, d, held{"a", want, 0})
	must(t, "Sync", d.Sync("a"), api.OK)
	must(t, "behind Sync", d.Append("a", "y"), api.ErrFull)
	must(t, "Rename", d.Rename("a", "b"), api.OK)
	must(t, "behind Rename", d.Append("b", "y"), api.ErrFull)
	must(t, "a new one", d.Append("a", "y"), api.OK)
	d.Crash(0)
	must(t, "behind Crash", d.Append("b", "y"), api.ErrFull)
	mustHave(t, d, held{"a", "", 0}, held{"b", want, len(want)})
}

func TestAppendByteByByteToTheEndOfAFile(t *testing.T) {
	d := disk.New()
	for i := range api.MaxFile {
		if e := d.Append("a", "x"); e != api.OK {
			t.Fatalf("byte %d: %d", i, e)
		}
	}
	must(t, "one more", d.Append("a", "x"), api.ErrFull)
	mustHave(t, d, held{"a", strings.Repeat("x", api.MaxFile), 0})
}

func TestAsManyFilesAsThereMayBe(t *testing.T) {
	d := full(t)
	l := d.Files()
	if !slices.Equal(l, numbered(api.MaxFiles)) {
		t.Fatalf("%q", l)
	}
	for _, s := range []string{"", "x"} {
		must(t, "one more", d.Append("g", s), api.ErrFull)
		must(t, "one that is there", d.Append(l[3], s), api.OK)
		must(t, "none", d.Append("", s), api.ErrArg)
	}
	mustLack(t, d, "g", api.ErrNone)
	must(t, "Rename", d.Rename(l[5], "g"), api.OK)
	must(t, "the name that was", d.Append(l[5], ""), api.ErrFull)
	d.Crash(0)
	must(t, "behind a crash", d.Append(l[5], ""), api.ErrFull)
	must(t, "Remove", d.Remove("g"), api.OK)
	must(t, "room again", d.Append(l[5], "new"), api.OK)
	must(t, "and no more", d.Append("g", ""), api.ErrFull)
	must(t, "Truncate", d.Truncate(l[5], 0), api.OK)
	must(t, "a file without bytes is one", d.Append("g", ""), api.ErrFull)
	if k := d.Files(); !slices.Equal(k, l) {
		t.Errorf("%q", k)
	}
}

func TestSync(t *testing.T) {
	d := disk.New()
	must(t, "none", d.Sync("a"), api.ErrNone)
	mustHave(t, d)
	d.Append("a", "xy")
	d.Append("b", "w")
	must(t, "Sync", d.Sync("a"), api.OK)
	mustHave(t, d, held{"a", "xy", 2}, held{"b", "w", 0})
	d.Append("a", "zv")
	mustHave(t, d, held{"a", "xyzv", 2}, held{"b", "w", 0})
	must(t, "Sync", d.Sync("b"), api.OK)
	mustHave(t, d, held{"a", "xyzv", 2}, held{"b", "w", 1})
	must(t, "Sync", d.Sync("a"), api.OK)
	must(t, "Sync", d.Sync("a"), api.OK)
	mustHave(t, d, held{"a", "xyzv", 4}, held{"b", "w", 1})
}

// 6.2

func TestTruncate(t *testing.T) {
	f := held{"a", "abcdef", 3}
	for n := -2; n <= 8; n++ {
		d := laid(t, f, held{"b", "other", 2})
		if n < 0 || n > 6 {
			must(t, "Truncate", d.Truncate("a", n), api.ErrRange)
			mustHave(t, d, f, held{"b", "other", 2})
			continue
		}
		must(t, "Truncate", d.Truncate("a", n), api.OK)
		mustHave(t, d, held{"a", "abcdef"[:n], min(n, 3)}, held{"b", "other", 2})
		must(t, "one beyond", d.Truncate("a", n+1), api.ErrRange)
		must(t, "Append", d.Append("a", "XY"), api.OK)
		mustHave(t, d, held{"a", "abcdef"[:n] + "XY", min(n, 3)}, held{"b", "other", 2})
		d.Crash(1)
		want := ("abcdef"[:n] + "XY")[:min(n, 3)+1]
		mustHave(t, d, held{"a", want, len(want)}, held{"b", "oth", 3})
	}
}

func TestTruncateWrongly(t *testing.T) {
	d := laid(t, held{"a", "xy", 1}, held{"b", "", 0})
	for _, n := range []int{-1, 3, math.MinInt, math.MaxInt, math.MaxInt32 + 1, math.MinInt32, 1 << 32, 1<<32 + 1} {
		must(t, "Truncate", d.Truncate("a", n), api.ErrRange)
		must(t, "Truncate", d.Truncate("b", n), api.ErrRange)
		must(t, "Truncate", d.Truncate("c", n), api.ErrNone)
		must(t, "Truncate", d.Truncate("", n), api.ErrArg)
	}
	must(t, "Truncate", d.Truncate("b", 0), api.OK)
	must(t, "Truncate", d.Truncate("c", 0), api.ErrNone)
	mustHave(t, d, held{"a", "xy", 1}, held{"b", "", 0})
}

func TestTruncateIsSureAtOnce(t *testing.T) {
	for n := range 7 {
		for keep := -1; keep <= 7; keep++ {
			d := laid(t, held{"a", "abcdef", 3})
			must(t, "Truncate", d.Truncate("a", n), api.OK)
			d.Crash(keep)
			left := min(n, 3) + max(0, min(keep, n-3))
			mustHave(t, d, held{"a", "abcdef"[:left], left})
		}
	}
}

func TestRename(t *testing.T) {
	d := laid(t, held{"a", "abc", 2}, held{"b", "x", 0})
	must(t, "to one that is there", d.Rename("a", "b"), api.ErrThere)
	must(t, "to itself", d.Rename("a", "a"), api.ErrThere)
	must(t, "of nobody's", d.Rename("c", "d"), api.ErrNone)
	must(t, "of nobody's to itself", d.Rename("c", "c"), api.ErrNone)
	must(t, "of nobody's to one that is there", d.Rename("c", "a"), api.ErrNone)
	mustHave(t, d, held{"a", "abc", 2}, held{"b", "x", 0})
	must(t, "Rename", d.Rename("a", "c"), api.OK)
	mustHave(t, d, held{"b", "x", 0}, held{"c", "abc", 2}) // no more of it is sure than was
	mustLack(t, d, "a", api.ErrNone)
	must(t, "again", d.Rename("a", "d"), api.ErrNone)
	must(t, "a name that was", d.Rename("b", "a"), api.OK)
	must(t, "Append", d.Append("c", "d"), api.OK)
	must(t, "Append", d.Append("b", "new"), api.OK)
	mustHave(t, d, held{"a", "x", 0}, held{"b", "new", 0}, held{"c", "abcd", 2})
	d.Crash(1)
	mustHave(t, d, held{"a", "x", 1}, held{"b", "n", 1}, held{"c", "abc", 3})
}

func TestRenameErrorsInOrder(t *testing.T) {
	d := laid(t, held{"a", "abc", 2})
	for _, to := range noNames() {
		must(t, "both none", d.Rename("", to), api.ErrArg)
		must(t, "of nobody's to none", d.Rename("b", to), api.ErrNone)
		must(t, "to none", d.Rename("a", to), api.ErrArg)
	}
	mustHave(t, d, held{"a", "abc", 2})
}

func TestRemove(t *testing.T) {
	d := laid(t, held{"a", "abc", 2}, held{"b", "x", 1})
	must(t, "nobody's", d.Remove("c"), api.ErrNone)
	must(t, "Remove", d.Remove("a"), api.OK)
	mustHave(t, d, held{"b", "x", 1})
	mustLack(t, d, "a", api.ErrNone)
	must(t, "again", d.Remove("a"), api.ErrNone)
	must(t, "Sync", d.Sync("a"), api.ErrNone)
	must(t, "Truncate", d.Truncate("a", 0), api.ErrNone)
	d.Crash(9)
	mustHave(t, d, held{"b", "x", 1}) // it is gone behind a crash, too
	must(t, "Append", d.Append("a", "new"), api.OK)
	mustHave(t, d, held{"a", "new", 0}, held{"b", "x", 1}) // and nothing of it is left in the next one
}

// 6.3

func TestCut(t *testing.T) {
	for n := -1; n <= 6; n++ {
		d := laid(t, held{"a", "xy", 1})
		d.Cut(n)
		if d.Dead() {
			t.Error("a disk dies by an Append alone")
		}
		mustHave(t, d, held{"a", "xy", 1})
		takes := max(n, 0)
		want := api.OK
		if takes < 4 {
			want = api.ErrDown
		}
		must(t, "Append", d.Append("a", "pqrs"), want)
		if d.Dead() != (want == api.ErrDown) {
			t.Errorf("Cut(%d): dead %v", n, d.Dead())
		}
		mustHave(t, d, held{"a", "xypqrs"[:min(6, 2+takes)], 1})
	}
}

func TestCutOfTheLeastAndTheGreatest(t *testing.T) {
	for _, n := range []int{math.MinInt, math.MinInt + 1, math.MinInt32, -1, 0} {
		d := laid(t, held{"a", "xy", 1})
		d.Cut(n)
		must(t, "no byte", d.Append("a", ""), api.OK)
		must(t, "a byte", d.Append("a", "z"), api.ErrDown)
		mustHave(t, d, held{"a", "xy", 1})
	}
	for _, n := range []int{math.MaxInt, math.MaxInt - 1, 1 << 32} {
		d := laid(t, held{"a", "xy", 1})
		d.Cut(n)
		must(t, "Append", d.Append("a", "z"), api.OK)
		mustHave(t, d, held{"a", "xyz", 1})
	}
}

func TestCutBehindSeveral(t *testing.T) {
	d := disk.New()
	d.Cut(6)
	must(t, "Append", d.Append("a", "xyz"), api.OK)
	must(t, "Append", d.Append("b", "pq"), api.OK)
	must(t, "Sync", d.Sync("a"), api.OK)
	must(t, "Truncate", d.Truncate("a", 1), api.OK) // gives no byte back
	must(t, "Remove", d.Remove("b"), api.OK)
	must(t, "Append", d.Append("a", "v"), api.OK) // just the bytes that come
	must(t, "Rename", d.Rename("a", "c"), api.OK)
	if d.Dead() {
		t.Error("dead")
	}
	must(t, "no byte", d.Append("c", ""), api.OK)
	must(t, "no byte of a new file", d.Append("d", ""), api.OK)
	mustHave(t, d, held{"c", "xv", 1}, held{"d", "", 0})
	must(t, "one more", d.Append("e", "w"), api.ErrDown)
	if !d.Dead() {
		t.Error("not dead")
	}
	mustHave(t, d, held{"c", "xv", 1}, held{"d", "", 0}, held{"e", "", 0})
}

func TestCutInANewFile(t *testing.T) {
	for n := -1; n <= 3; n++ {
		d := disk.New()
		d.Cut(n)
		must(t, "Append", d.Append("a", "pqrs"), api.ErrDown)
		mustHave(t, d, held{"a", "pqrs"[:max(n, 0)], 0})
	}
}

func TestCutTwice(t *testing.T) {
	for _, first := range []int{-5, 0, 1, 100} {
		d := laid(t, held{"a", "xy", 1})
		d.Cut(first)
		d.Cut(2)
		must(t, "Append", d.Append("a", "p"), api.OK)
		d.Cut(2) // the bytes that were taken ahead of it do not count
		must(t, "Append", d.Append("a", "qr"), api.OK)
		must(t, "Append", d.Append("a", "s"), api.ErrDown)
		mustHave(t, d, held{"a", "xypqr", 1})
	}
}

func TestCutOfADeadDisk(t *testing.T) {
	for _, n := range []int{-1, 0, 1, 5, math.MaxInt} {
		d := laid(t, held{"a", "xy", 1})
		d.Cut(1)
		must(t, "Append", d.Append("a", "pq"), api.ErrDown)
		d.Cut(n)
		if !d.Dead() {
			t.Error("not dead")
		}
		must(t, "Append", d.Append("a", "r"), api.ErrDown)
		mustHave(t, d, held{"a", "xyp", 1})
		d.Crash(9)
		must(t, "as many as come", d.Append("a", "longer"), api.OK)
		mustHave(t, d, held{"a", "xyplonger", 3})
	}
}

func TestWhatIsRefusedIsNotCut(t *testing.T) {
	d := full(t)
	d.Cut(3)
	for range 3 {
		must(t, "no name", d.Append("", "pqrs"), api.ErrArg)
		must(t, "one file more", d.Append("g", "pqrs"), api.ErrFull)
		must(t, "too many bytes", d.Append("f00", strings.Repeat("x", api.MaxFile)), api.ErrFull)
		must(t, "nobody's", d.Sync("g"), api.ErrNone)
	}
	if d.Dead() {
		t.Error("dead")
	}
	must(t, "three bytes", d.Append("f00", "pqr"), api.OK)
	must(t, "one more", d.Append("f00", "s"), api.ErrDown)
	if s, e := d.Read("f00"); s != "f00pqr" || e != api.OK {
		t.Error(s, e)
	}
}

// killed makes a dead disk with a: xyp, of which x is sure, and b: w.
func killed(t *testing.T) *disk.Disk {
	t.Helper()
	d := laid(t, held{"a", "xy", 1}, held{"b", "w", 0})
	d.Cut(1)
	must(t, "Append", d.Append("a", "pq"), api.ErrDown)
	return d
}

func TestEachCallOfADeadDisk(t *testing.T) {
	d := killed(t)
	for range 2 {
		for _, name := range []string{"a", "b", "c"} {
			must(t, "Append", d.Append(name, "r"), api.ErrDown)
			must(t, "Append", d.Append(name, ""), api.ErrDown)
			must(t, "Append", d.Append(name, strings.Repeat("x", api.MaxFile+1)), api.ErrDown)
			must(t, "Sync", d.Sync(name), api.ErrDown)
			must(t, "Truncate", d.Truncate(name, 0), api.ErrDown)
			must(t, "Truncate", d.Truncate(name, -1), api.ErrDown)
			must(t, "Truncate", d.Truncate(name, 9), api.ErrDown)
			must(t, "Remove", d.Remove(name), api.ErrDown)
			for _, to := range append(noNames(), "a", "b", "d") {
				must(t, "Rename", d.Rename(name, to), api.ErrDown)
			}
		}
		for _, name := range noNames() {
			must(t, "Append", d.Append(name, "r"), api.ErrArg)
			must(t, "Sync", d.Sync(name), api.ErrArg)
			must(t, "Truncate", d.Truncate(name, 0), api.ErrArg)
			must(t, "Rename", d.Rename(name, "d"), api.ErrArg)
			must(t, "Remove", d.Remove(name), api.ErrArg)
			mustLack(t, d, name, api.ErrArg)
		}
		if !d.Dead() {
			t.Error("not dead")
		}
		mustHave(t, d, held{"a", "xyp", 1}, held{"b", "w", 0})
		mustLack(t, d, "c", api.ErrNone)
	}
}

func TestADeadDiskThatIsFull(t *testing.T) {
	d := full(t)
	d.Cut(0)
	must(t, "Append", d.Append("f00", "p"), api.ErrDown)
	must(t, "one file more", d.Append("g", "p"), api.ErrDown)
	must(t, "no name", d.Append("", "p"), api.ErrArg)
}

func TestADeadDiskBehindTheNextCrash(t *testing.T) {
	d := killed(t)
	d.Crash(1)
	if d.Dead() {
		t.Error("dead")
	}
	mustHave(t, d, held{"a", "xy", 2}, held{"b", "w", 1})
	must(t, "Append", d.Append("a", strings.Repeat("r", 1000)), api.OK)
	must(t, "Sync", d.Sync("a"), api.OK)
	must(t, "Truncate", d.Truncate("a", 3), api.OK)
	must(t, "Rename", d.Rename("a", "c"), api.OK)
	must(t, "Remove", d.Remove("b"), api.OK)
	must(t, "Append", d.Append("d", "s"), api.OK)
	mustHave(t, d, held{"c", "xyr", 3}, held{"d", "s", 0})
	d.Cut(1)
	must(t, "it dies again", d.Append("d", "tu"), api.ErrDown)
	mustHave(t, d, held{"c", "xyr", 3}, held{"d", "st", 0})
}

func TestCrash(t *testing.T) {
	for _, keep := range []int{math.MinInt, -2, -1, 0, 1, 2, 3, 4, 5, 9, math.MaxInt - 1, math.MaxInt} {
		d := laid(t, held{"a", "abcde", 2}, held{"b", "", 0}, held{"c", "xyz", 3}, held{"d", "pqrs", 0})
		d.Crash(keep)
		k := max(keep, 0)
		a, p := "abcde"[:2+min(k, 3)], "pqrs"[:min(k, 4)]
		mustHave(t, d, held{"a", a, len(a)}, held{"b", "", 0}, held{"c", "xyz", 3}, held{"d", p, len(p)})
		d.Crash(-1)
		mustHave(t, d, held{"a", a, len(a)}, held{"b", "", 0}, held{"c", "xyz", 3}, held{"d", p, len(p)}) // all that stayed is sure
		must(t, "Append", d.Append("a", "new"), api.OK)
		mustHave(t, d, held{"a", a + "new", len(a)}, held{"b", "", 0}, held{"c", "xyz", 3}, held{"d", p, len(p)})
	}
}

func TestCrashEndsACut(t *testing.T) {
	d := laid(t, held{"a", "xy", 1})
	d.Cut(1)
	d.Crash(5)
	must(t, "Append", d.Append("a", "longer"), api.OK)
	if d.Dead() {
		t.Error("dead")
	}
	mustHave(t, d, held{"a", "xylonger", 2})
}

func TestCrashOfNoFiles(t *testing.T) {
	d := disk.New()
	d.Crash(3)
	mustHave(t, d)
	must(t, "Append", d.Append("a", "x"), api.OK)
}

func TestFilesRise(t *testing.T) {
	want := []string{"\x00", "\x00\x00", "A", "Z", "a", "a\x00", "aa", "ab", "b", "z", "\x7f", "\x80", "é", "\xff", "\xff\x00", "\xff\xff"}
	for step := 1; step < len(want); step += 2 { // of 16 names each odd step goes through all
		d := disk.New()
		for i := range want {
			must(t, "Append", d.Append(want[(i*step+step)%len(want)], "x"), api.OK)
		}
		if l := d.Files(); !slices.Equal(l, want) {
			t.Errorf("%q", l)
		}
	}
	d := disk.New()
	l := names()[:api.MaxFiles]
	for i := range l {
		must(t, "Append", d.Append(l[len(l)-1-i], ""), api.OK)
	}
	if k := d.Files(); !slices.Equal(k, l) {
		t.Errorf("%q", k)
	}
}

// changes are calls of each kind, by which one of two disks is told from the other.
func changes() []func(c changer) api.Errno {
	return []func(c changer) api.Errno{
		func(c changer) api.Errno { return c.Append("a", "Z") },
		func(c changer) api.Errno { return c.Append("n", "new") },
		func(c changer) api.Errno { return c.Sync("a") },
		func(c changer) api.Errno { return c.Truncate("a", 1) },
		func(c changer) api.Errno { return c.Rename("a", "r") },
		func(c changer) api.Errno { return c.Remove("a") },
		func(c changer) api.Errno { c.Cut(0); return c.Append("a", "Z") },
		func(c changer) api.Errno { c.Crash(1); return c.Append("b", "Z") },
	}
}

func TestCopy(t *testing.T) {
	begin := []held{{"a", "abcd", 2}, {"b", "x", 0}}
	for _, change := range changes() {
		for _, other := range changes() {
			d := laid(t, begin...)
			c := d.Copy()
			m, n := newModel(), newModel()
			m.l, n.l = slices.Clone(begin), slices.Clone(begin)
			mustHave(t, c, begin...)
			must(t, "the one", change(d), change(m))
			mustHave(t, c, begin...)
			must(t, "the copy", other(c), other(n))
			mustHave(t, d, m.l...)
			mustHave(t, c, n.l...)
			if d.Dead() != m.dead || c.Dead() != n.dead {
				t.Error("dead", d.Dead(), c.Dead())
			}
		}
	}
}

func TestCopyAppendsOnItsOwn(t *testing.T) {
	d := disk.New()
	for range 9 { // whatever room is left behind a file's bytes, no two disks lay theirs there
		must(t, "Append", d.Append("a", "x"), api.OK)
		s, _ := d.Read("a")
		c, k := d.Copy(), d.Copy()
		must(t, "Append", c.Append("a", "1"), api.OK)
		must(t, "Append", k.Append("a", "2"), api.OK)
		mustHave(t, d, held{"a", s, 0})
		mustHave(t, c, held{"a", s + "1", 0})
		mustHave(t, k, held{"a", s + "2", 0})
	}
}

func TestCopyOfADeadDisk(t *testing.T) {
	d := killed(t)
	c := d.Copy()
	want := []held{{"a", "xyp", 1}, {"b", "w", 0}}
	mustHave(t, c, want...)
	if !c.Dead() {
		t.Error("not dead")
	}
	must(t, "Append", c.Append("a", "r"), api.ErrDown)
	must(t, "Sync", c.Sync("a"), api.ErrDown)
	c.Crash(0)
	if c.Dead() || !d.Dead() {
		t.Error("dead", c.Dead(), d.Dead())
	}
	mustHave(t, d, want...)
	mustHave(t, c, held{"a", "x", 1}, held{"b", "", 0})
	k := d.Copy()
	d.Crash(9)
	if d.Dead() || !k.Dead() {
		t.Error("dead", d.Dead(), k.Dead())
	}
	mustHave(t, k, want...)
}

func TestCopyOfACutDisk(t *testing.T) {
	d := laid(t, held{"a", "xy", 1})
	d.Cut(3)
	must(t, "Append", d.Append("a", "p"), api.OK)
	c := d.Copy()
	must(t, "the copy", c.Append("a", "qr"), api.OK)
	must(t, "the copy", c.Append("a", "s"), api.ErrDown)
	if d.Dead() || !c.Dead() {
		t.Error("dead", d.Dead(), c.Dead())
	}
	must(t, "the one", d.Append("a", "QRS"), api.ErrDown)
	mustHave(t, c, held{"a", "xypqr", 1})
	mustHave(t, d, held{"a", "xypQR", 1})
}

// all scripts of some calls, and long ones without a plan

// calls are those that scripts are made of.
func calls() []func(c changer) api.Errno {
	var l []func(c changer) api.Errno
	for _, name := range []string{"a", "b", ""} {
		for _, s := range []string{"", "p", "qrs"} {
			l = append(l, func(c changer) api.Errno { return c.Append(name, s) })
		}
		for _, n := range []int{-1, 0, 1, 2, 4} {
			l = append(l, func(c changer) api.Errno { return c.Truncate(name, n) })
		}
		for _, to := range []string{"a", "b", "c", ""} {
			l = append(l, func(c changer) api.Errno { return c.Rename(name, to) })
		}
		l = append(l, func(c changer) api.Errno { return c.Sync(name) }, func(c changer) api.Errno { return c.Remove(name) })
	}
	for _, n := range []int{-1, 0, 1, 2, 3} {
		l = append(l, func(c changer) api.Errno { c.Cut(n); return api.OK }, func(c changer) api.Errno { c.Crash(n); return api.OK })
	}
	return l
}

// mustBeAlike says so if a disk is not what its model is.
func mustBeAlike(t *testing.T, d *disk.Disk, m *model) {
	t.Helper()
	mustHave(t, d, m.l...)
	if d.Dead() != m.dead {
		t.Errorf("dead %v, want %v", d.Dead(), m.dead)
	}
}

func TestAllShortScripts(t *testing.T) {
	begins := []func(c changer){
		func(c changer) { c.Append("a", "vw"); c.Sync("a"); c.Append("a", "xy"); c.Append("b", "z") },
		func(c changer) { c.Append("a", "v"); c.Cut(1); c.Append("b", "wx"); c.Rename("a", "c") },
	}
	l := calls()
	for _, begin := range begins {
		for i := range l {
			for j := range l {
				for k := range l {
					d, m := disk.New(), newModel()
					begin(d)
					begin(m)
					for _, n := range []int{i, j, k} {
						must(t, "a script's call", l[n](d), l[n](m))
					}
					mustBeAlike(t, d, m)
					if t.Failed() {
						t.Fatalf("behind the calls %d, %d, %d", i, j, k)
					}
				}
			}
		}
	}
}

func TestLongScripts(t *testing.T) {
	seed := uint32(1)
	next := func(n int) int { // numbers without a plan, the same in every run
		seed = seed*1664525 + 1013904223
		return int(seed>>8) % n
	}
	l := calls()
	for range 200 {
		d, m := disk.New(), newModel()
		for range 300 {
			n := next(len(l))
			must(t, "a script's call", l[n](d), l[n](m))
			if next(8) == 0 {
				d, m = d.Copy(), m.copy()
			}
			mustBeAlike(t, d, m)
			if t.Failed() {
				t.FailNow()
			}
		}
	}
}

// 6.4

func TestWhatWasSyncedIsThereBehindEveryCrash(t *testing.T) {
	texts := []string{"one", "", "two", "\x00\x00", "longer than these", "z"}
	total := len(strings.Join(texts, ""))
	for cut := range total + 2 {
		for syncs := range 1 << len(texts) { // behind which of the texts there is a Sync
			for _, keep := range []int{-1, 0, 1, 2, 3, 7, total} {
				d := disk.New()
				d.Cut(cut)
				all, sure := "", ""
				for i, s := range texts {
					all += s
					d.Append("a", s)
					if syncs>>i&1 == 1 && d.Sync("a") == api.OK {
						sure = all
					}
				}
				d.Crash(keep)
				s, e := d.Read("a")
				want := min(cut, total, len(sure)+max(keep, 0))
				if e != api.OK || s != all[:want] || !strings.HasPrefix(s, sure) {
					t.Fatalf("cut at %d, syncs %b, keep %d: %q, %d", cut, syncs, keep, s, e)
				}
			}
		}
	}
}

// the examples

func TestExamples(t *testing.T) {
	d := disk.New()
	d.Append("a", "xy")
	d.Sync("a")
	d.Append("a", "zv")
	d.Append("b", "w")
	d.Crash(1)
	mustHave(t, d, held{"a", "xyz", 3}, held{"b", "w", 1})
	must(t, "Rename", d.Rename("a", "b"), api.ErrThere)
	must(t, "Truncate", d.Truncate("a", 1), api.OK)
	d.Crash(0)
	mustHave(t, d, held{"a", "x", 1}, held{"b", "w", 1})
	d.Cut(1)
	must(t, "Append", d.Append("a", "pq"), api.ErrDown)
	must(t, "Sync", d.Sync("a"), api.ErrDown)
	mustHave(t, d, held{"a", "xp", 1}, held{"b", "w", 1})

	d = laid(t, held{"a", "xyzpq", 3}) // of DOC.md
	d.Crash(1)
	mustHave(t, d, held{"a", "xyzp", 4})
}

// P1, R1, R2

func TestANilDisk(t *testing.T) {
	var d *disk.Disk
	for _, name := range append(noNames(), "a") {
		must(t, "Append", d.Append(name, "x"), api.ErrArg)
		must(t, "Append", d.Append(name, strings.Repeat("x", api.MaxFile+1)), api.ErrArg)
		must(t, "Sync", d.Sync(name), api.ErrArg)
		must(t, "Truncate", d.Truncate(name, 0), api.ErrArg)
		must(t, "Truncate", d.Truncate(name, -1), api.ErrArg)
		must(t, "Rename", d.Rename(name, "b"), api.ErrArg)
		must(t, "Rename", d.Rename(name, ""), api.ErrArg)
		must(t, "Remove", d.Remove(name), api.ErrArg)
		mustLack(t, d, name, api.ErrArg)
	}
	for _, n := range []int{math.MinInt, -1, 0, 1, math.MaxInt} {
		d.Cut(n)
		d.Crash(n)
	}
	if d.Dead() || len(d.Files()) != 0 {
		t.Error(d.Dead(), d.Files())
	}
	c := d.Copy()
	if c == nil || c.Dead() {
		t.Fatal(c)
	}
	mustHave(t, c)
	must(t, "Append", c.Append("a", "xy"), api.OK)
	mustHave(t, c, held{"a", "xy", 0})
	mustHave(t, d.Copy())
}

func TestADiskThatNewDidNotMake(t *testing.T) {
	var d, e, f disk.Disk
	mustHave(t, &d)
	mustLack(t, &d, "a", api.ErrNone)
	must(t, "Sync", d.Sync("a"), api.ErrNone)
	must(t, "Truncate", d.Truncate("a", 0), api.ErrNone)
	must(t, "Rename", d.Rename("a", "b"), api.ErrNone)
	must(t, "Remove", d.Remove("a"), api.ErrNone)
	must(t, "Append", d.Append("a", "xy"), api.OK)
	mustHave(t, &d, held{"a", "xy", 0})
	e.Crash(1)
	mustHave(t, e.Copy())
	f.Cut(1)
	must(t, "Append", f.Append("a", "xy"), api.ErrDown)
	mustHave(t, &f, held{"a", "x", 0})
}

// R3

func TestWhatIsRefusedChangesNothing(t *testing.T) {
	d, want := full(t), []held(nil)
	for _, name := range numbered(api.MaxFiles) {
		want = append(want, held{name, name, 0})
	}
	for range 2 * api.MaxFiles {
		must(t, "Append", d.Append("g", "x"), api.ErrFull)
		must(t, "Append", d.Append("f01", strings.Repeat("x", api.MaxFile-2)), api.ErrFull)
		must(t, "Truncate", d.Truncate("f01", 4), api.ErrRange)
		must(t, "Rename", d.Rename("f01", "f02"), api.ErrThere)
		must(t, "Rename", d.Rename("f01", ""), api.ErrArg)
		must(t, "Rename", d.Rename("g", "h"), api.ErrNone)
		must(t, "Remove", d.Remove("g"), api.ErrNone)
		must(t, "Sync", d.Sync("g"), api.ErrNone)
	}
	mustHave(t, d, want...)
}

// R4

// borrowed is a text whose bytes can be changed.
func borrowed(s string) (string, []byte) {
	b := []byte(s)
	return unsafe.String(&b[0], len(b)), b
}

// overwrite changes the bytes of a text that was answered.
func overwrite(s string) {
	b := unsafe.Slice(unsafe.StringData(s), len(s))
	for i := range b {
		b[i] = '#'
	}
}

func TestWhatIsHandedInIsNotKept(t *testing.T) {
	d := disk.New()
	name, n := borrowed("the name")
	to, o := borrowed("the other name")
	text, b := borrowed("some bytes")
	must(t, "Append", d.Append(name, text), api.OK)
	must(t, "Append", d.Append(name, text), api.OK)
	if string(n) != "the name" || string(b) != "some bytes" {
		t.Errorf("%q %q: changed", n, b)
	}
	clear(n)
	clear(b)
	mustHave(t, d, held{"the name", "some bytessome bytes", 0})
	copy(n, "the name")
	must(t, "Rename", d.Rename(name, to), api.OK)
	if string(n) != "the name" || string(o) != "the other name" {
		t.Errorf("%q %q: changed", n, o)
	}
	clear(n)
	clear(o)
	mustHave(t, d, held{"the other name", "some bytessome bytes", 0})
	mustHave(t, d.Copy(), held{"the other name", "some bytessome bytes", 0})
}

func TestWhatIsAnsweredIsTheAskersOwn(t *testing.T) {
	name := strings.Repeat("n", 20)
	want := held{name, strings.Repeat("text ", 20), 7}
	d := laid(t, want, held{"other", "x", 0})
	c := d.Copy()
	s, _ := d.Read(name)
	u, _ := d.Read(name)
	k, l := d.Files(), d.Files()
	overwrite(s)
	overwrite(k[0])
	k[1] = "changed"
	_ = append(k[:1], "changed")
	if u != want.s || l[0] != name || l[1] != "other" || name[0] != 'n' {
		t.Errorf("%q %q: answers share memory", u, l)
	}
	mustHave(t, d, want, held{"other", "x", 0})
	mustHave(t, c, want, held{"other", "x", 0})
	overwrite(c.Files()[0])
	mustHave(t, d, want, held{"other", "x", 0})
	mustHave(t, c, want, held{"other", "x", 0})
}

func TestWhatWasReadStaysAsItWas(t *testing.T) {
	d := laid(t, held{"a", "abcdef", 6})
	s, _ := d.Read("a")
	l := d.Files()
	d.Truncate("a", 1)
	d.Append("a", "XYZ")
	d.Rename("a", "b")
	d.Crash(0)
	if s != "abcdef" || !slices.Equal(l, []string{"a"}) {
		t.Errorf("%q %q", s, l)
	}
}

// R5

func TestTheSameAgain(t *testing.T) {
	var first []held
	for range 20 { // a map is gone through in another order each time
		d := full(t)
		d.Sync("f07")
		d.Append("f07", "more")
		d.Crash(2)
		var l []held
		for _, name := range d.Files() {
			s, _ := d.Read(name)
			_, sure, _ := d.Size(name)
			l = append(l, held{name, s, sure})
		}
		if first == nil {
			first = l
		}
		if !slices.Equal(l, first) {
			t.Fatalf("%v, want %v", l, first)
		}
	}
	if !slices.Contains(first, held{"f07", "f07mo", 5}) || !slices.Contains(first, held{"f08", "f0", 2}) {
		t.Error(first)
	}
}

func TestDisksAreApart(t *testing.T) {
	d, e := disk.New(), disk.New()
	d.Append("a", "x")
	d.Cut(0)
	d.Append("a", "y")
	if e.Dead() {
		t.Error("dead")
	}
	must(t, "Append", e.Append("b", "z"), api.OK)
	mustHave(t, d, held{"a", "x", 0})
	mustHave(t, e, held{"b", "z", 0})
}
