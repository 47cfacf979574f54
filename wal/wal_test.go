package wal_test

import (
	"encoding/binary"
	"fmt"
	"hash/crc32"
	"math"
	"regexp"
	"slices"
	"strings"
	"testing"
	"unsafe"

	"hedgerow/api"
	"hedgerow/disk"
	"hedgerow/wal"
)

const around = 7 // what a frame has beside its text

// framed is the frames of texts, one behind the other.
func framed(records ...string) string {
	var b []byte
	for _, r := range records {
		f := append([]byte{byte(len(r) >> 16), byte(len(r) >> 8), byte(len(r))}, r...)
		b = append(b, binary.BigEndian.AppendUint32(f, crc32.ChecksumIEEE(f))...)
	}
	return string(b)
}

// unframed is the texts of the frames with which s begins, and where these end.
func unframed(s string) ([]string, int) {
	var l []string
	at := 0
	for at+around <= len(s) {
		n := int(s[at])<<16 | int(s[at+1])<<8 | int(s[at+2])
		if n > 65536 || at+n+around > len(s) || s[at:at+n+around] != framed(s[at+3:at+3+n]) {
			break
		}
		l, at = append(l, s[at+3:at+3+n]), at+n+around
	}
	return l, at
}

// sized is a record whose frame has so many bytes.
func sized(n int) string { return strings.Repeat("x", n-around) }

// full is a record whose frame alone makes a segment full.
func full() string { return sized(4096) }

// file is a segment's name.
func file(name string, n int) string { return fmt.Sprintf("%s.%08d", name, n) }

// model is a log by the chapter's words, on a disk of its own; none of it but next is kept beside what the disk has.
type model struct {
	d    *disk.Disk
	name string
	next int
}

func isName(name string) bool { return regexp.MustCompile(`^[a-z0-9]{1,16}$`).MatchString(name) }

// segments is the numbers of a log's files, rising.
func segments(d *disk.Disk, name string) []int {
	var l []int
	looks := regexp.MustCompile("^" + name + `\.([0-9]{8})$`)
	for _, f := range d.Files() {
		if m := looks.FindStringSubmatch(f); m != nil {
			n := 0
			for _, c := range m[1] {
				n = 10*n + int(c-'0')
			}
			l = append(l, n)
		}
	}
	slices.Sort(l)
	return l
}

func openModel(d *disk.Disk, name string) (*model, []string, api.Errno) {
	if d == nil || !isName(name) {
		return nil, nil, api.ErrArg
	}
	if len(segments(d, name)) == 0 {
		if e := d.Append(file(name, 0), ""); e != api.OK {
			return nil, nil, e
		}
	}
	if d.Dead() {
		return nil, nil, api.ErrDown
	}
	l := segments(d, name)
	var all []string
	read, next, behind := 0, l[0], false
	for read < len(l) && l[read] == next && !behind {
		s, _ := d.Read(file(name, l[read]))
		records, end := unframed(s)
		if end < len(s) {
			behind = true
			d.Truncate(file(name, l[read]), end)
		}
		all = append(all, records...)
		next += len(records)
		read++
	}
	for i := len(l) - 1; i >= read; i-- {
		d.Remove(file(name, l[i]))
	}
	d.Sync(file(name, l[read-1]))
	return &model{d, name, next}, all, api.OK
}

// last is the last segment of a log whose disk is alive.
func (m *model) last() string {
	l := m.Segments()
	return file(m.name, l[len(l)-1])
}

func (m *model) Append(records ...string) api.Errno {
	for _, r := range records {
		if len(r) > 65536 {
			return api.ErrArg
		}
	}
	for _, r := range records {
		if m.d.Dead() {
			return api.ErrDown
		}
		to := m.last()
		if n, _, _ := m.d.Size(to); n >= 4096 {
			m.d.Sync(to)
			if m.next > 99999999 {
				return api.ErrFull
			}
			to = file(m.name, m.next)
		}
		if e := m.d.Append(to, framed(r)); e != api.OK {
			return e
		}
		m.next++
	}
	return api.OK
}

func (m *model) Sync() api.Errno {
	return m.d.Sync(m.last())
}

func (m *model) Drop(upto int) int {
	dropped := 0
	for {
		l := m.Segments()
		if m.d.Dead() || len(l) < 2 || l[1] > upto {
			return dropped
		}
		m.d.Remove(file(m.name, l[0]))
		dropped++
	}
}

func (m *model) First() int      { return m.Segments()[0] }
func (m *model) Next() int       { return m.next }
func (m *model) Segments() []int { return segments(m.d, m.name) }

func (m *model) All() []string {
	var all []string
	for _, n := range m.Segments() {
		s, _ := m.d.Read(file(m.name, n))
		records, _ := unframed(s)
		all = append(all, records...)
	}
	return all
}

// held is a file as it should be.
type held struct {
	name, s string
	sure    int
}

// laid makes a disk with these files.
func laid(t *testing.T, l ...held) *disk.Disk {
	t.Helper()
	d := disk.New()
	for _, f := range l {
		must(t, "Append", d.Append(f.name, f.s[:f.sure]), api.OK)
		must(t, "Sync", d.Sync(f.name), api.OK)
		must(t, "Append", d.Append(f.name, f.s[f.sure:]), api.OK)
	}
	return d
}

// must says so if an answer is another one.
func must(t *testing.T, what string, got, want api.Errno) {
	t.Helper()
	if got != want {
		t.Errorf("%s: %d, want %d", what, got, want)
	}
}

// mustHold says so if a disk has not just these files.
func mustHold(t *testing.T, d *disk.Disk, want ...held) {
	t.Helper()
	var names []string
	for _, f := range want {
		names = append(names, f.name)
		if s, e := d.Read(f.name); s != f.s || e != api.OK {
			t.Errorf("%s: %s, %d; want %s", f.name, short(s), e, short(f.s))
		}
		if _, sure, _ := d.Size(f.name); sure != f.sure {
			t.Errorf("%s: %d bytes are sure; want %d of %d", f.name, sure, f.sure, len(f.s))
		}
	}
	slices.Sort(names)
	if l := d.Files(); !slices.Equal(l, names) {
		t.Errorf("files %q, want %q", l, names)
	}
}

// mustBeAlike says so if two disks are not.
func mustBeAlike(t *testing.T, d, want *disk.Disk) {
	t.Helper()
	var l []held
	for _, name := range want.Files() {
		s, _ := want.Read(name)
		_, sure, _ := want.Size(name)
		l = append(l, held{name, s, sure})
	}
	mustHold(t, d, l...)
	if d.Dead() != want.Dead() {
		t.Errorf("dead: %v, want %v", d.Dead(), want.Dead())
	}
}

// short is a text as it is told.
func short(s string) string {
	if len(s) > 24 {
		return fmt.Sprintf("%d bytes, %q ..", len(s), s[:24])
	}
	return fmt.Sprintf("%q", s)
}

// told is texts as they are told.
func told(l []string) string {
	var k []string
	for _, s := range l {
		k = append(k, short(s))
	}
	return strings.Join(k, " ")
}

// asked is what a log, or a model of one, is asked without being changed.
type asked interface {
	First() int
	Next() int
	Segments() []int
	All() []string
}

// mustTell says so if a log does not tell these segments, what comes next, and these records.
func mustTell(t *testing.T, l asked, segments []int, next int, all ...string) {
	t.Helper()
	first := 0
	if len(segments) > 0 {
		first = segments[0]
	}
	if n := l.First(); n != first {
		t.Errorf("First: %d, want %d", n, first)
	}
	if n := l.Next(); n != next {
		t.Errorf("Next: %d, want %d", n, next)
	}
	if k := l.Segments(); !slices.Equal(k, segments) {
		t.Errorf("Segments: %v, want %v", k, segments)
	}
	if k := l.All(); !slices.Equal(k, all) {
		t.Errorf("All: %s, want %s", told(k), told(all))
	}
}

// opened opens the log named log, which must have these records.
func opened(t *testing.T, d *disk.Disk, want ...string) *wal.Log {
	t.Helper()
	l, records, e := wal.Open(d, "log")
	if l == nil || e != api.OK || !slices.Equal(records, want) {
		t.Fatalf("Open: %v, %s, %d; want %s", l != nil, told(records), e, told(want))
	}
	return l
}

// mustNotOpen says so if Open does not answer this error alone, or changes the disk.
func mustNotOpen(t *testing.T, d *disk.Disk, name string, want api.Errno) {
	t.Helper()
	was := d.Copy()
	if l, records, e := wal.Open(d, name); l != nil || len(records) != 0 || e != want {
		t.Errorf("Open(%q): %v, %s, %d; want the error %d alone", name, l != nil, told(records), e, want)
	}
	mustBeAlike(t, d, was)
}

// crammed makes a disk with other files, so that just so many more may be.
func crammed(t *testing.T, room int) *disk.Disk {
	t.Helper()
	d := disk.New()
	for i := range api.MaxFiles - room {
		must(t, "Append", d.Append(fmt.Sprint("other", i), "o"), api.OK)
	}
	return d
}

// 7.1: names

func TestNames(t *testing.T) {
	most := strings.Repeat("a", api.MaxLog)
	for _, name := range []string{"a", "z", "0", "9", "log", "0log9", "00000000", most, most[1:], "9" + most[1:], most[1:] + "z"} {
		d := disk.New()
		l, records, e := wal.Open(d, name)
		if l == nil || len(records) != 0 || e != api.OK {
			t.Fatalf("Open(%q): %d", name, e)
		}
		mustHold(t, d, held{name + ".00000000", "", 0})
		must(t, "Append", l.Append("x"), api.OK)
		mustHold(t, d, held{name + ".00000000", framed("x"), 0})
	}
	for _, name := range []string{"", most + "a", most + most, strings.Repeat("a", 1000), "a.b", "a ", " a", "aB", "a-0", "log.00000000", "é", "aé", "\xff", "a\x00", "_"} {
		mustNotOpen(t, disk.New(), name, api.ErrArg)
		mustNotOpen(t, nil, name, api.ErrArg)
	}
}

func TestEachByteOfAName(t *testing.T) {
	for b := range 256 {
		c := string([]byte{byte(b)})
		may := b >= 'a' && b <= 'z' || b >= '0' && b <= '9'
		for _, name := range []string{c, c + "ab", "a" + c + "b", "ab" + c} {
			d := disk.New()
			if !may {
				mustNotOpen(t, d, name, api.ErrArg)
				continue
			}
			if l, _, e := wal.Open(d, name); l == nil || e != api.OK {
				t.Errorf("Open(%q): %d", name, e)
			}
			mustHold(t, d, held{name + ".00000000", "", 0})
		}
	}
}

func TestErrorsOfOpenInOrder(t *testing.T) {
	mustNotOpen(t, nil, "log", api.ErrArg)
	d := crammed(t, 0)
	mustNotOpen(t, d, "Log", api.ErrArg)
	mustNotOpen(t, d, "log", api.ErrFull)
	d.Cut(0)
	must(t, "Append", d.Append("other0", "x"), api.ErrDown)
	mustNotOpen(t, d, "", api.ErrArg)
	mustNotOpen(t, d, "log", api.ErrDown)
	d.Crash(0)
	mustNotOpen(t, d, "log", api.ErrFull)
	must(t, "Remove", d.Remove("other0"), api.OK)
	mustTell(t, opened(t, d), []int{0}, 0)
}

// 7.1: what is read

func TestOpenOfAnEmptyDisk(t *testing.T) {
	d := disk.New()
	mustTell(t, opened(t, d), []int{0}, 0)
	mustHold(t, d, held{"log.00000000", "", 0})
	mustTell(t, opened(t, d), []int{0}, 0)
	d.Crash(0)
	mustTell(t, opened(t, d), []int{0}, 0)
	mustHold(t, d, held{"log.00000000", "", 0})
}

func TestOpenReadsSegmentsInOrder(t *testing.T) {
	for _, first := range []int{0, 1, 7, 9, 10, 4096, 99999990} {
		one, two, three := framed("a", "", "c"), framed("d"), framed("e", "\x00\xff")
		d := laid(t, held{file("log", first+4), three, 0}, held{file("log", first), one, 0}, held{file("log", first+3), two, 0})
		l := opened(t, d, "a", "", "c", "d", "e", "\x00\xff")
		mustTell(t, l, []int{first, first + 3, first + 4}, first+6, "a", "", "c", "d", "e", "\x00\xff")
		must(t, "Append", l.Append("f"), api.OK)
		mustTell(t, l, []int{first, first + 3, first + 4}, first+7, "a", "", "c", "d", "e", "\x00\xff", "f")
		s, _ := d.Read(file("log", first+4))
		if s != three+framed("f") {
			t.Error(short(s))
		}
	}
}

func TestOpenReadsNumbersOfMoreDigits(t *testing.T) {
	var want []string
	d := disk.New()
	for n := range 12 {
		r := fmt.Sprint("record ", n)
		must(t, "Append", d.Append(file("log", n), framed(r)), api.OK)
		want = append(want, r)
	}
	mustTell(t, opened(t, d, want...), []int{0, 1, 2, 3, 4, 5, 6, 7, 8, 9, 10, 11}, 12, want...)
}

func TestTheFirstSegmentMayHaveTheGreatestNumber(t *testing.T) {
	d := laid(t, held{"log.99999999", framed("a", "b"), 0})
	mustTell(t, opened(t, d, "a", "b"), []int{99999999}, 100000001, "a", "b")
	d = laid(t, held{"log.99999998", framed("a"), 0}, held{"log.99999999", "", 0})
	mustTell(t, opened(t, d, "a"), []int{99999998, 99999999}, 99999999, "a")
}

func TestOtherFilesAreNoSegments(t *testing.T) {
	others := []held{}
	for _, name := range []string{
		"log", "log.", "log.0", "log.0000001", "log.000000001", "log.000000010", "log.0000000a", "log.a0000000", "log.0000 001", "log.+0000001", "log.-0000001",
		"log.0x000001", "log.0000_001", "log.1e000001", "log.0000000\x00", "log.\xff0000001", "log.0000001\xff", "log.0000001 ", " log.00000001", "log.00000001.", "log.00000001.00000001",
		"log00000001", "log_00000001", "log,00000001", "log..00000001", "log. 0000001", "Log.00000001", "LOG.00000001", "lo.00000001", "og.00000001", "logg.00000001", "log0.00000001", "log1.00000000",
		"l.00000001", "g.00000001", ".00000001", "00000001", "alog.00000001", "log.log.00000001", "lög.00000001", "log.0000000１", "log.٠",
	} {
		others = append(others, held{name, framed("theirs") + "torn", 3})
	}
	d := laid(t, others...)
	l := opened(t, d)
	mustTell(t, l, []int{0}, 0)
	mustHold(t, d, append(slices.Clone(others), held{"log.00000000", "", 0})...)
	must(t, "Append", l.Append("x", full(), "y"), api.OK)
	mustTell(t, l, []int{0, 2}, 3, "x", full(), "y")
	if n := l.Drop(9); n != 1 {
		t.Errorf("Drop: %d", n)
	}
	must(t, "Sync", l.Sync(), api.OK)
	mustTell(t, opened(t, d, "y"), []int{2}, 3, "y")
	mustHold(t, d, append(slices.Clone(others), held{"log.00000002", framed("y"), len(framed("y"))})...)
}

func TestLogsOnOneDiskAreApart(t *testing.T) {
	d := disk.New()
	var logs []*wal.Log
	names := []string{"log", "lo", "logg", "0", "00000000"}
	for _, name := range names {
		l, _, e := wal.Open(d, name)
		must(t, "Open", e, api.OK)
		logs = append(logs, l)
	}
	for i, l := range logs {
		must(t, "Append", l.Append(names[i], full()), api.OK)
	}
	for i, l := range logs {
		must(t, "Append", l.Append("end"), api.OK)
		mustTell(t, l, []int{0, 2}, 3, names[i], full(), "end")
	}
	logs[0].Drop(2)
	mustTell(t, logs[1], []int{0, 2}, 3, "lo", full(), "end")
	d.Append("log.00000002", "torn")
	for i, name := range names {
		l, records, e := wal.Open(d, name)
		if e != api.OK || i == 0 && len(records) != 1 || i > 0 && len(records) != 3 {
			t.Errorf("Open(%q): %s, %d", name, told(records), e)
		}
		if i > 0 {
			mustTell(t, l, []int{0, 2}, 3, name, full(), "end")
		}
	}
}

func TestNumbersThatDoNotGoOn(t *testing.T) {
	one := framed("a", "b", "c")                                                                                                // so that the next one is 7
	for _, behind := range [][]int{{5}, {6}, {8}, {99999999}, {5, 7}, {6, 7}, {6, 7, 8}, {5, 6, 7, 8}, {8, 9}, {8, 99999999}} { // none of them is the next one
		d := laid(t, held{file("log", 4), one, len(one)})
		for _, n := range behind {
			must(t, "Append", d.Append(file("log", n), framed("d")), api.OK)
		}
		mustTell(t, opened(t, d, "a", "b", "c"), []int{4}, 7, "a", "b", "c")
		mustHold(t, d, held{file("log", 4), one, len(one)})
	}
	d := laid(t, held{file("log", 4), one, 0}, held{file("log", 7), framed("d"), 0}, held{file("log", 9), framed("f"), 0}, held{file("log", 10), framed("g"), 0})
	mustTell(t, opened(t, d, "a", "b", "c", "d"), []int{4, 7}, 8, "a", "b", "c", "d")
	mustHold(t, d, held{file("log", 4), one, 0}, held{file("log", 7), framed("d"), 8})
}

func TestASegmentWithoutRecordsIsTheLastOne(t *testing.T) {
	d := laid(t, held{file("log", 4), "", 0}, held{file("log", 5), framed("a"), 0})
	mustTell(t, opened(t, d), []int{4}, 4)
	mustHold(t, d, held{file("log", 4), "", 0})
	d = laid(t, held{file("log", 3), framed("a"), 0}, held{file("log", 4), "", 0}, held{file("log", 5), framed("b"), 0})
	l := opened(t, d, "a")
	mustTell(t, l, []int{3, 4}, 4, "a")
	must(t, "Append", l.Append("b"), api.OK)
	mustHold(t, d, held{file("log", 3), framed("a"), 0}, held{file("log", 4), framed("b"), 0})
}

// 7.1: what is torn

// mustMend says so if a first segment s, with segments behind it, is not read as these records, and cut off behind them.
func mustMend(t *testing.T, s string, sure int, records ...string) {
	t.Helper()
	end := len(framed(records...))
	next := 5 + len(records)
	files := []held{{file("log", 5), s, sure}}
	for n := 6; n < 10; n++ { // one of them is the next one
		files = append(files, held{file("log", n), framed("behind"), 0})
	}
	d := laid(t, files...)
	l := opened(t, d, records...)
	mustTell(t, l, []int{5}, next, records...)
	mustHold(t, d, held{file("log", 5), s[:end], end})
	must(t, "Append", l.Append("new"), api.OK)
	mustHold(t, d, held{file("log", 5), s[:end] + framed("new"), end})
	d.Crash(0)
	mustTell(t, opened(t, d, records...), []int{5}, next, records...)
}

func TestASegmentThatEndsWithinAFrame(t *testing.T) {
	records := []string{"one", "", "three"}
	s := framed(records...)
	for n := range len(s) {
		whole, end := unframed(s[:n])
		if end == n {
			continue // it ends behind a frame
		}
		for _, sure := range []int{0, end, n} {
			mustMend(t, s[:n], sure, whole...)
		}
	}
}

func TestASegmentWithAnotherByte(t *testing.T) {
	records := []string{"one", "", "three"}
	s := framed(records...)
	for at := range s {
		for _, turn := range []byte{1, 0x80, 0xff} {
			b := []byte(s)
			b[at] ^= turn
			whole := 0
			for len(framed(records[:whole+1]...)) <= at {
				whole++
			}
			mustMend(t, string(b), len(b)/2, records[:whole]...)
		}
	}
}

func TestSomethingBehindTheFrames(t *testing.T) {
	for _, behind := range []string{"z", "zzz", "\x00", "\x00\x00\x00", "\x01\x00\x01", "\x00\x00\x00\xff\x41\xd9\x13", strings.Repeat("\x00", 9), framed("a")[1:] + framed("b")} {
		mustMend(t, behind, 0)
		mustMend(t, framed("a", "b")+behind, 3, "a", "b")
		mustMend(t, framed(sized(4000))+behind, 5, sized(4000))
	}
}

func TestATornSegmentBehindOthers(t *testing.T) {
	d := laid(t,
		held{file("log", 2), framed("a", "b"), 5}, held{file("log", 4), framed("c", "d") + "\x00\x00", 0},
		held{file("log", 6), framed("e"), 8}, held{file("log", 7), framed("f"), 8}, held{"other", "x", 0})
	l := opened(t, d, "a", "b", "c", "d")
	mustTell(t, l, []int{2, 4}, 6, "a", "b", "c", "d")
	mustHold(t, d, held{file("log", 2), framed("a", "b"), 5}, held{file("log", 4), framed("c", "d"), 16}, held{"other", "x", 0})
}

func TestAFrameIsNotReadAcrossSegments(t *testing.T) {
	s := framed("a", "bcd")
	d := laid(t, held{file("log", 0), s[:12], 0}, held{file("log", 1), s[12:], 0})
	mustTell(t, opened(t, d, "a"), []int{0}, 1, "a")
	mustHold(t, d, held{file("log", 0), framed("a"), 8})
}

func TestWhatIsSureBehindOpen(t *testing.T) {
	a, b, c := framed("a"), framed("b"), framed("c")
	for sure := range 9 {
		d := laid(t, held{file("log", 0), a, sure}, held{file("log", 1), b, sure}, held{file("log", 2), c, sure})
		opened(t, d, "a", "b", "c")
		mustHold(t, d, held{file("log", 0), a, sure}, held{file("log", 1), b, sure}, held{file("log", 2), c, 8})
	}
}

func TestOpenOfADeadDisk(t *testing.T) {
	for _, l := range [][]held{
		nil, {{file("log", 0), "", 0}}, {{file("log", 3), framed("a", "b"), 5}},
		{{file("log", 3), framed("a") + "torn", 0}, {file("log", 4), framed("b"), 0}},
	} {
		d := laid(t, append(l, held{"other", "", 0})...)
		d.Cut(0)
		must(t, "Append", d.Append("other", "x"), api.ErrDown)
		mustNotOpen(t, d, "log", api.ErrDown)
		d.Crash(9)
		if _, _, e := wal.Open(d, "log"); e != api.OK {
			t.Errorf("behind a crash: %d", e)
		}
	}
}

func TestOpenLaysNoByte(t *testing.T) {
	d := disk.New()
	d.Cut(0)
	l := opened(t, d) // the disk would die of a byte
	mustTell(t, l, []int{0}, 0)
	if d.Dead() {
		t.Error("dead")
	}
	must(t, "Append", l.Append("a"), api.ErrDown)
	d = laid(t, held{file("log", 0), framed("a") + "torn", 0}, held{file("log", 1), "", 0})
	d.Cut(0)
	mustTell(t, opened(t, d, "a"), []int{0}, 1, "a")
	mustHold(t, d, held{file("log", 0), framed("a"), 8})
}

func TestOpenOfAFullDisk(t *testing.T) {
	mustNotOpen(t, crammed(t, 0), "log", api.ErrFull)
	mustTell(t, opened(t, crammed(t, 1)), []int{0}, 0)
	d := crammed(t, 2)
	d.Append(file("log", 3), framed("a"))
	d.Append(file("log", 4), framed("b"))
	mustTell(t, opened(t, d, "a", "b"), []int{3, 4}, 5, "a", "b")
}

// 7.2

func TestAppend(t *testing.T) {
	d := disk.New()
	l := opened(t, d)
	must(t, "Append", l.Append("a", "", "\x00\xff"), api.OK)
	mustHold(t, d, held{file("log", 0), framed("a", "", "\x00\xff"), 0})
	mustTell(t, l, []int{0}, 3, "a", "", "\x00\xff")
	must(t, "Append", l.Append("a"), api.OK)
	mustTell(t, l, []int{0}, 4, "a", "", "\x00\xff", "a")
	mustHold(t, d, held{file("log", 0), framed("a", "", "\x00\xff", "a"), 0}) // nothing is sure by Append
}

func TestAppendOfNoRecord(t *testing.T) {
	d := laid(t, held{file("log", 0), framed(full()), 9})
	l := opened(t, d, full())
	must(t, "Append", l.Append(), api.OK)
	must(t, "Append", l.Append([]string{}...), api.OK)
	mustTell(t, l, []int{0}, 1, full()) // no new one, though the last one is full
	d.Cut(0)
	must(t, "Append", l.Append(), api.OK)
	if d.Dead() {
		t.Error("dead")
	}
	d.Append("x", "x")
	must(t, "of a dead disk", l.Append(), api.OK)
}

func TestHowLongRecordsMayBe(t *testing.T) {
	most := strings.Repeat("m", api.MaxText)
	d := disk.New()
	l := opened(t, d)
	must(t, "Append", l.Append("", most), api.OK)
	mustTell(t, l, []int{0}, 2, "", most)
	must(t, "Append", l.Append(most, most), api.OK)
	mustTell(t, l, []int{0, 2, 3}, 4, "", most, most, most)
	must(t, "Append", l.Append(""), api.OK)
	mustTell(t, opened(t, d, "", most, most, most, ""), []int{0, 2, 3, 4}, 5, "", most, most, most, "")
}

func TestARecordThatIsTooLong(t *testing.T) {
	long := strings.Repeat("m", api.MaxText+1)
	d := disk.New()
	l := opened(t, d)
	must(t, "Append", l.Append("a", full()), api.OK)
	was := d.Copy()
	for _, records := range [][]string{{long}, {long, "b"}, {"b", long}, {"b", long, "c"}, {long, long}, {full(), "b", full(), long + long}, {"", long}} {
		must(t, "Append", l.Append(records...), api.ErrArg)
		mustBeAlike(t, d, was) // the full segment is not synced either
		mustTell(t, l, []int{0}, 2, "a", full())
	}
	d.Cut(0)
	must(t, "of a cut disk", l.Append("b", long), api.ErrArg)
	if d.Dead() {
		t.Error("dead")
	}
	d.Append("x", "x")
	must(t, "of a dead disk", l.Append("b", long), api.ErrArg)
}

func TestWhenASegmentIsFull(t *testing.T) {
	for _, n := range []int{api.SegBytes - 1, api.SegBytes, api.SegBytes + 1} {
		for _, parts := range [][]string{{sized(n)}, {"", sized(n - 7)}, {sized(n - 15), "y", ""}} {
			d := disk.New()
			l := opened(t, d)
			must(t, "Append", l.Append(parts...), api.OK)
			mustHold(t, d, held{file("log", 0), framed(parts...), 0})
			must(t, "Append", l.Append("next"), api.OK)
			k := len(parts)
			if n < 4096 {
				mustTell(t, l, []int{0}, k+1, append(parts, "next")...)
				mustHold(t, d, held{file("log", 0), framed(append(parts, "next")...), 0})
				continue
			}
			mustTell(t, l, []int{0, k}, k+1, append(parts, "next")...)
			mustHold(t, d, held{file("log", 0), framed(parts...), n}, held{file("log", k), framed("next"), 0})
		}
	}
}

func TestWhatIsSyncedWhenASegmentBegins(t *testing.T) {
	d := disk.New()
	l := opened(t, d)
	must(t, "Append", l.Append("a", full(), "b", full(), "c", full()), api.OK)
	one, two, three := framed("a", full()), framed("b", full()), framed("c", full())
	mustTell(t, l, []int{0, 2, 4}, 6, "a", full(), "b", full(), "c", full())
	mustHold(t, d, held{file("log", 0), one, len(one)}, held{file("log", 2), two, len(two)}, held{file("log", 4), three, 0}) // full, but nothing came behind it
	d.Crash(0)
	mustTell(t, opened(t, d, "a", full(), "b", full()), []int{0, 2, 4}, 4, "a", full(), "b", full())
}

func TestSegmentsAreFullByTheBytesOfTheDisk(t *testing.T) {
	s := framed(full())
	for _, c := range []struct {
		s    string
		next int
	}{{framed(sized(4095)), 0}, {s, 1}, {framed(sized(4095)) + "torn", 0}, {s + "torn", 1}} {
		d := laid(t, held{file("log", 0), c.s, 0})
		records, _ := unframed(c.s)
		l := opened(t, d, records...)
		must(t, "Append", l.Append("x"), api.OK)
		want := []int{0}
		if c.next > 0 {
			want = []int{0, c.next}
		}
		mustTell(t, l, want, 2, append(records, "x")...)
	}
}

func TestTheGreatestNumber(t *testing.T) {
	for _, behind := range []string{"", "y"} {
		d := laid(t, held{file("log", 99999998), framed(full()), 5})
		l := opened(t, d, full())
		mustTell(t, l, []int{99999998}, 99999999, full())
		must(t, "the greatest", l.Append("x"+behind), api.OK)
		mustTell(t, l, []int{99999998, 99999999}, 100000000, full(), "x"+behind)
		must(t, "more records of it", l.Append("y", full()), api.OK)
		last := framed("x"+behind, "y", full())
		mustHold(t, d, held{file("log", 99999998), framed(full()), 4096}, held{file("log", 99999999), last, 0})
		mustTell(t, l, []int{99999998, 99999999}, 100000002, full(), "x"+behind, "y", full())
		must(t, "one above", l.Append(behind), api.ErrFull)
		mustTell(t, l, []int{99999998, 99999999}, 100000002, full(), "x"+behind, "y", full())
		mustHold(t, d, held{file("log", 99999998), framed(full()), 4096}, held{file("log", 99999999), last, len(last)}) // what was synced for it stays so
		must(t, "again", l.Append("z", "zz"), api.ErrFull)
		if n := l.Drop(math.MaxInt); n != 1 {
			t.Errorf("Drop: %d", n)
		}
		mustTell(t, opened(t, d, "x"+behind, "y", full()), []int{99999999}, 100000002, "x"+behind, "y", full())
	}
}

func TestOneAboveTheGreatestNumber(t *testing.T) {
	d := laid(t, held{file("log", 99999999), framed(full()), 5})
	l := opened(t, d, full())
	d.Append("other", "")
	must(t, "too long", l.Append(strings.Repeat("x", api.MaxText+1)), api.ErrArg)
	must(t, "one above", l.Append("x"), api.ErrFull)
	mustTell(t, l, []int{99999999}, 100000000, full())
	d = laid(t, held{file("log", 99999999), framed(sized(4095)), 5})
	l = opened(t, d, sized(4095))
	must(t, "room for one", l.Append("a", "b"), api.ErrFull)
	mustTell(t, l, []int{99999999}, 100000001, sized(4095), "a")
	s := framed(sized(4095), "a")
	mustHold(t, d, held{file("log", 99999999), s, len(s)})
	d.Cut(0)
	d.Append("other", "x")
	must(t, "a dead disk cannot sync", l.Append("b"), api.ErrDown)
	must(t, "nor", l.Sync(), api.ErrDown)
}

func TestAppendToADiskThatIsFullOfFiles(t *testing.T) {
	d := crammed(t, 2)
	l := opened(t, d)
	must(t, "Append", l.Append(full(), "a", full(), "b"), api.ErrFull)
	mustTell(t, l, []int{0, 1}, 3, full(), "a", full()) // those ahead of it are laid
	if n, sure, _ := d.Size(file("log", 1)); n != 4096+8 || sure != n {
		t.Errorf("%d bytes, %d of them sure", n, sure)
	}
	must(t, "again", l.Append("b"), api.ErrFull)
	must(t, "no record", l.Append(), api.OK)
	must(t, "Sync", l.Sync(), api.OK)
	mustTell(t, l, []int{0, 1}, 3, full(), "a", full())
	if n := l.Drop(1); n != 1 {
		t.Errorf("Drop: %d", n)
	}
	must(t, "room again", l.Append("b", "c"), api.OK)
	mustTell(t, l, []int{1, 3}, 5, "a", full(), "b", "c")
	must(t, "Sync", l.Sync(), api.OK)
	mustTell(t, opened(t, d, "a", full(), "b", "c"), []int{1, 3}, 5, "a", full(), "b", "c")
}

func TestAppendBehindAFileThatIsFull(t *testing.T) {
	var records []string
	size := 0
	for size < api.MaxFile {
		records = append(records, sized(min(api.MaxText, api.MaxFile-size)))
		size += len(records[len(records)-1]) + around
	}
	s := framed(records...)
	if len(s) != api.MaxFile {
		t.Fatal(len(s))
	}
	d := laid(t, held{file("log", 0), s, 0})
	l := opened(t, d, records...)
	k := len(records)
	must(t, "Append", l.Append("a"), api.OK)
	mustTell(t, l, []int{0, k}, k+1, append(records, "a")...)
	mustHold(t, d, held{file("log", 0), s, len(s)}, held{file("log", k), framed("a"), 0})
}

// mustDie says so if an Append of records, of which the disk dies behind n bytes, is not what the model says, or what is there behind a crash.
func mustDie(t *testing.T, d *disk.Disk, n int, records ...string) {
	t.Helper()
	ahead, own := d.Copy(), d.Copy()
	_, before, _ := openModel(ahead, "log")
	l, _, _ := wal.Open(d, "log")
	m, _, _ := openModel(own, "log")
	d.Cut(n)
	own.Cut(n)
	must(t, "Append", l.Append(records...), m.Append(records...))
	mustBeAlike(t, d, own)
	mustTell(t, l, m.Segments(), m.Next(), m.All()...)
	if d.Dead() {
		must(t, "again", l.Append("z"), api.ErrDown)
		must(t, "Sync", l.Sync(), api.ErrDown)
		if k := l.Drop(math.MaxInt); k != 0 {
			t.Errorf("Drop: %d", k)
		}
		mustBeAlike(t, d, own)
		mustTell(t, l, m.Segments(), m.Next(), m.All()...)
		mustNotOpen(t, d, "log", api.ErrDown)
	}
	all := append(before, records...)
	for _, keep := range []int{-1, 0, 1, 8, 100, math.MaxInt} {
		c, k := d.Copy(), own.Copy()
		c.Crash(keep)
		k.Crash(keep)
		_, want, _ := openModel(k, "log")
		opened(t, c, want...)
		mustBeAlike(t, c, k)
		if len(want) > len(all) || len(want) < len(before) || !slices.Equal(want, all[:len(want)]) {
			t.Errorf("%s is no beginning of %s", told(want), told(all))
		}
	}
	if t.Failed() {
		t.Fatalf("the disk took %d bytes", n)
	}
}

func TestADiskThatDiesAtAnyByte(t *testing.T) {
	records := []string{"one", "", "three"}
	for n := range len(framed(records...)) + 2 {
		mustDie(t, disk.New(), n, records...)
		mustDie(t, laid(t, held{file("log", 7), framed("ahead"), 0}), n, records...)
		mustDie(t, laid(t, held{file("log", 7), framed(full()), 0}), n, records...)         // in a new segment
		mustDie(t, laid(t, held{file("log", 7), framed(sized(4093)), 0}), n, records...)    // and behind a record more
		mustDie(t, laid(t, held{file("log", 99999999), framed(full()), 0}), n, records...)  // not in one
		mustDie(t, laid(t, held{file("log", 99999998), framed(full()), 99}), n, records...) // in the last one that may be
	}
	for _, n := range []int{4000, 4095, 4096, 4097, 4098, 4103, 4104, 4105, 8199, 8200, 8201, 8210} {
		mustDie(t, disk.New(), n, full(), "a", full(), "b", "c")
	}
}

func TestWhatIsThereOfASegmentThatWasTorn(t *testing.T) {
	d := disk.New()
	l := opened(t, d)
	must(t, "Append", l.Append("a", full()), api.OK)
	d.Cut(2)
	must(t, "Append", l.Append("b"), api.ErrDown)
	s := framed("a", full())
	mustHold(t, d, held{file("log", 0), s, len(s)}, held{file("log", 2), framed("b")[:2], 0})
	mustTell(t, l, []int{0, 2}, 2, "a", full()) // the file is there, its record is not
	d.Crash(9)
	l = opened(t, d, "a", full())
	mustTell(t, l, []int{0, 2}, 2, "a", full())
	mustHold(t, d, held{file("log", 0), s, len(s)}, held{file("log", 2), "", 0})
	must(t, "Append", l.Append("c"), api.OK)
	mustTell(t, l, []int{0, 2}, 3, "a", full(), "c")
}

func TestSync(t *testing.T) {
	d := disk.New()
	l := opened(t, d)
	must(t, "of no record", l.Sync(), api.OK)
	must(t, "Append", l.Append("a", "b"), api.OK)
	must(t, "Sync", l.Sync(), api.OK)
	mustHold(t, d, held{file("log", 0), framed("a", "b"), 16})
	must(t, "Append", l.Append("c"), api.OK)
	mustHold(t, d, held{file("log", 0), framed("a", "b", "c"), 16})
	must(t, "Sync", l.Sync(), api.OK)
	must(t, "again", l.Sync(), api.OK)
	mustHold(t, d, held{file("log", 0), framed("a", "b", "c"), 24})
	must(t, "Append", l.Append(full(), "d"), api.OK)
	one := framed("a", "b", "c", full())
	mustHold(t, d, held{file("log", 0), one, len(one)}, held{file("log", 4), framed("d"), 0})
	must(t, "Sync", l.Sync(), api.OK)
	mustHold(t, d, held{file("log", 0), one, len(one)}, held{file("log", 4), framed("d"), 8})
	mustTell(t, l, []int{0, 4}, 5, "a", "b", "c", full(), "d")
}

func TestWhatStaysBehindACrash(t *testing.T) {
	synced, more := []string{"a", "", "bcd"}, []string{"e", "", "fgh", "i"}
	for keep := -2; keep <= len(framed(more...))+2; keep++ {
		d := disk.New()
		l := opened(t, d)
		must(t, "Append", l.Append(synced...), api.OK)
		must(t, "Sync", l.Sync(), api.OK)
		must(t, "Append", l.Append(more...), api.OK)
		d.Crash(keep)
		left, _ := unframed(framed(more...)[:min(max(keep, 0), len(framed(more...)))])
		all := slices.Concat(synced, left)
		mustTell(t, opened(t, d, all...), []int{0}, len(all), all...)
		d.Crash(0) // what Open told is sure
		mustTell(t, opened(t, d, all...), []int{0}, len(all), all...)
	}
}

// 7.3

// five makes a log with the segments 3, 5, 6, 9 and 10, and tells its records.
func five(t *testing.T) (*disk.Disk, *wal.Log, []string) {
	t.Helper()
	d := laid(t, held{file("log", 3), framed("a", full()), 0})
	l := opened(t, d, "a", full())
	records := []string{"a", full(), full(), "b", "c", full(), full(), "d", "e"}
	must(t, "Append", l.Append(records[2:]...), api.OK)
	mustTell(t, l, []int{3, 5, 6, 9, 10}, 12, records...)
	return d, l, records
}

func TestDrop(t *testing.T) {
	firsts := []int{3, 5, 6, 9, 10}
	for _, upto := range []int{math.MinInt, -1, 0, 1, 2, 3, 4, 5, 6, 7, 8, 9, 10, 11, 12, 13, 100, 99999999, math.MaxInt} {
		d, l, records := five(t)
		was, _ := d.Read(file("log", 10))
		want := 0
		for want < 4 && firsts[want+1] <= upto {
			want++
		}
		if n := l.Drop(upto); n != want {
			t.Errorf("Drop(%d): %d, want %d", upto, n, want)
		}
		left := records[firsts[want]-3:]
		mustTell(t, l, firsts[want:], 12, left...)
		if upto < 12 && len(left) < 12-max(upto, 3) {
			t.Errorf("Drop(%d) dropped a record from there on", upto)
		}
		if n := l.Drop(upto); n != 0 {
			t.Errorf("again: %d", n)
		}
		if s, _ := d.Read(file("log", 10)); s != was {
			t.Error("the last segment is another one")
		}
		must(t, "Append", l.Append("new"), api.OK)
		mustTell(t, l, firsts[want:], 13, append(slices.Clone(left), "new")...)
		must(t, "Sync", l.Sync(), api.OK)
		d.Crash(0)
		mustTell(t, opened(t, d, append(slices.Clone(left), "new")...), firsts[want:], 13, append(slices.Clone(left), "new")...)
	}
}

func TestDropOfTheOnlySegment(t *testing.T) {
	d := disk.New()
	l := opened(t, d)
	for range 3 {
		for _, upto := range []int{math.MinInt, -1, 0, 1, 5, math.MaxInt} {
			if n := l.Drop(upto); n != 0 {
				t.Errorf("Drop(%d): %d", upto, n)
			}
		}
		must(t, "Append", l.Append("a"), api.OK)
	}
	mustTell(t, l, []int{0}, 3, "a", "a", "a")
	must(t, "Append", l.Append(full()), api.OK)
	if n := l.Drop(math.MaxInt); n != 0 {
		t.Errorf("of a full one: %d", n)
	}
}

func TestDropIsSureAtOnce(t *testing.T) {
	d, l, records := five(t)
	if n := l.Drop(9); n != 3 {
		t.Fatal(n)
	}
	d.Crash(0) // the last segment was not synced
	mustTell(t, opened(t, d, records[6]), []int{9, 10}, 10, records[6])
}

func TestDropOfADeadDisk(t *testing.T) {
	d, l, records := five(t)
	d.Cut(0)
	d.Append("x", "x")
	if n := l.Drop(math.MaxInt); n != 0 {
		t.Errorf("Drop: %d", n)
	}
	mustTell(t, l, []int{3, 5, 6, 9, 10}, 12, records...)
}

func TestSegmentsOfALongLog(t *testing.T) {
	d := disk.New()
	l := opened(t, d)
	var all []string
	var firsts []int
	for i := range 200 { // 512 bytes each: 8 in a segment
		r := strings.Repeat(string([]byte{byte('a' + i%26)}), 512-around)
		if i%8 == 0 {
			firsts = append(firsts, i)
		}
		all = append(all, r)
		must(t, "Append", l.Append(r), api.OK)
	}
	mustTell(t, l, firsts, 200, all...)
	must(t, "Sync", l.Sync(), api.OK)
	mustTell(t, opened(t, d, all...), firsts, 200, all...)
	if n := l.Drop(100); n != 12 {
		t.Errorf("Drop: %d", n)
	}
	mustTell(t, l, firsts[12:], 200, all[96:]...)
}

// 7.4

func TestWhatWasSyncedIsThereBehindEveryCrash(t *testing.T) {
	calls := [][]string{{"a"}, {"", "bc"}, {sized(4050)}, {"d", "e"}, {sized(4100), "f"}, {"g"}}
	var total int
	for _, c := range calls {
		total += len(framed(c...))
	}
	var cuts []int
	for n := 0; n <= total+1; n++ {
		if n < 40 || n > 4060 && n < 4130 || n > 8190 { // the others are within the long ones
			cuts = append(cuts, n)
		}
	}
	for _, cut := range cuts {
		for syncs := range 1 << len(calls) { // behind which of the calls there is a Sync
			mustKeep(t, calls, cut, syncs)
		}
		if t.Failed() {
			t.Fatalf("cut at %d", cut)
		}
	}
}

// mustKeep says so if behind a crash there is not what was synced, and of the other records a beginning.
func mustKeep(t *testing.T, calls [][]string, cut, syncs int) {
	t.Helper()
	d := disk.New()
	l := opened(t, d)
	d.Cut(cut)
	var all []string
	sure := 0
	for i, c := range calls {
		all = append(all, c...)
		l.Append(c...)
		if syncs>>i&1 == 1 && l.Sync() == api.OK {
			sure = len(all)
		}
	}
	for _, keep := range []int{0, 11, 5000} {
		c := d.Copy()
		c.Crash(keep)
		k, records, e := wal.Open(c, "log")
		if e != api.OK || len(records) < sure || len(records) > len(all) || !slices.Equal(records, all[:len(records)]) || k.Next() != len(records) {
			t.Errorf("cut %d, syncs %b, keep %d: %s, %d; want %d records at least", cut, syncs, keep, told(records), e, sure)
			return
		}
		c.Crash(0)
		if _, again, e := wal.Open(c, "log"); e != api.OK || !slices.Equal(again, records) {
			t.Errorf("cut %d, syncs %b, keep %d: %s, %d; want %s, which Open told", cut, syncs, keep, told(again), e, told(records))
		}
	}
}

// long scripts without a plan

// chance is numbers without a plan, the same in every run.
type chance uint32

func (c *chance) of(n int) int {
	*c = *c*1664525 + 1013904223
	return int(*c>>8) % n
}

// records are some, rarely one that is too long.
func (c *chance) records() []string {
	var l []string
	sizes := []int{0, 1, 2, 5, 30, 500, 4088, 4089, 4090, 4096, 5000, api.MaxText, api.MaxText + 1}
	for range c.of(5) {
		n := sizes[c.of(6)]
		if c.of(4) == 0 {
			n = sizes[c.of(len(sizes))]
		}
		l = append(l, strings.Repeat(string([]byte{byte('a' + c.of(26))}), n))
	}
	return l
}

// spoil changes a disk of which no log is open, as it would two that are alike.
func (c *chance) spoil(disks ...*disk.Disk) {
	kind, at, which, s := c.of(6), c.of(9000), c.of(100), string([]byte{byte(c.of(256)), byte(c.of(3))})
	number := c.of(30)
	for _, d := range disks {
		files := d.Files()
		name := files[which%len(files)]
		size, _, _ := d.Size(name)
		switch kind {
		case 0:
			d.Truncate(name, at%(size+1))
		case 1:
			d.Append(name, s)
		case 2:
			d.Remove(name)
		case 3:
			d.Append(file("log", number), framed(s))
		case 4:
			d.Rename(name, file("log", number))
		case 5: // a byte is another one
			if size > 0 {
				b, _ := d.Read(name)
				d.Truncate(name, at%size)
				d.Append(name, string([]byte{b[at%size] ^ 4})+b[at%size+1:])
			}
		}
	}
}

// step does one thing to a log and to its model.
func (c *chance) step(t *testing.T, l *wal.Log, m *model) {
	t.Helper()
	switch c.of(8) {
	case 0, 1, 2, 3:
		records := c.records()
		must(t, "Append", l.Append(records...), m.Append(records...))
	case 4, 5:
		must(t, "Sync", l.Sync(), m.Sync())
	case 6:
		upto := m.Next() - c.of(20) + 2
		if n, want := l.Drop(upto), m.Drop(upto); n != want {
			t.Errorf("Drop(%d): %d, want %d", upto, n, want)
		}
	}
}

func TestLongScripts(t *testing.T) {
	c := new(chance)
	for range 60 {
		d, own := disk.New(), disk.New()
		for range 12 {
			l, records, e := wal.Open(d, "log")
			m, want, f := openModel(own, "log")
			must(t, "Open", e, f)
			if !slices.Equal(records, want) {
				t.Errorf("Open: %s, want %s", told(records), told(want))
			}
			if e != api.OK {
				break
			}
			if c.of(3) == 0 {
				n := c.of(9000)
				d.Cut(n)
				own.Cut(n)
			}
			for range c.of(20) {
				c.step(t, l, m)
				mustBeAlike(t, d, own)
				mustTell(t, l, m.Segments(), m.Next(), m.All()...)
			}
			if d.Dead() || c.of(3) > 0 {
				keep := c.of(300) - 1
				d.Crash(keep)
				own.Crash(keep)
			}
			if c.of(3) == 0 {
				c.spoil(d, own)
			}
			if t.Failed() {
				t.FailNow()
			}
		}
	}
}

// the examples

func TestExamples(t *testing.T) {
	d := disk.New()
	l := opened(t, d)
	must(t, "Append", l.Append("a", "b"), api.OK)
	must(t, "Sync", l.Sync(), api.OK)
	must(t, "Append", l.Append("c"), api.OK)
	d.Crash(3)
	mustTell(t, opened(t, d, "a", "b"), []int{0}, 2, "a", "b")

	d = disk.New()
	l = opened(t, d)
	must(t, "Append", l.Append("0", "1", "2", "3", "4", "5", sized(5000-6*8)), api.OK)
	if n, _, _ := d.Size("log.00000000"); n != 5000 {
		t.Error(n)
	}
	must(t, "Append", l.Append("seven"), api.OK)
	if s, e := d.Read("log.00000007"); s != framed("seven") || e != api.OK {
		t.Error(short(s), e)
	}
}

// P1, R1, R2

func TestANilLog(t *testing.T) {
	var l *wal.Log
	for _, records := range [][]string{nil, {}, {""}, {"a", "b"}, {strings.Repeat("x", api.MaxText+1)}} {
		must(t, "Append", l.Append(records...), api.ErrArg)
	}
	must(t, "Sync", l.Sync(), api.ErrArg)
	for _, upto := range []int{math.MinInt, -1, 0, 1, math.MaxInt} {
		if n := l.Drop(upto); n != 0 {
			t.Errorf("Drop(%d): %d", upto, n)
		}
	}
	mustTell(t, l, nil, 0)
}

func TestALogThatOpenDidNotMake(t *testing.T) {
	var l wal.Log
	must(t, "Append", l.Append("a"), api.ErrArg)
	must(t, "Append", l.Append(strings.Repeat("x", api.MaxText+1)), api.ErrArg)
	must(t, "Sync", l.Sync(), api.ErrArg)
	if n := l.Drop(1); n != 0 {
		t.Errorf("Drop: %d", n)
	}
	mustTell(t, &l, nil, 0)
}

func TestALogWhoseFilesAreTakenAway(t *testing.T) {
	d, l, _ := five(t)
	for _, name := range d.Files() {
		d.Remove(name)
	}
	l.Append("a", full(), "b")
	l.Sync()
	l.Drop(99)
	l.First()
	l.Next()
	l.Segments()
	l.All()
	if _, _, e := wal.Open(d, "log"); e != api.OK {
		t.Error(e)
	}
}

// R4

// borrowed is a text whose bytes can be changed.
func borrowed(s string) (string, []byte) {
	b := []byte(s)
	return unsafe.String(&b[0], len(b)), b
}

// overwrite changes the bytes of texts that were answered.
func overwrite(l []string) {
	for i, s := range l {
		b := unsafe.Slice(unsafe.StringData(s), len(s))
		for k := range b {
			b[k] = '#'
		}
		l[i] = "changed"
	}
}

func TestWhatIsHandedInIsNotKept(t *testing.T) {
	d := disk.New()
	name, n := borrowed("log")
	l, _, e := wal.Open(d, name)
	must(t, "Open", e, api.OK)
	copy(n, "oth")
	text, b := borrowed("some bytes")
	records := []string{text, "b", "behind", "the end"}
	must(t, "Append", l.Append(records[:2]...), api.OK)
	if string(b) != "some bytes" || !slices.Equal(records[1:], []string{"b", "behind", "the end"}) {
		t.Errorf("%q %q: changed", b, records)
	}
	clear(b)
	clear(records)
	mustTell(t, l, []int{0}, 2, "some bytes", "b")
	must(t, "Append", l.Append(full(), "c"), api.OK)
	must(t, "Sync", l.Sync(), api.OK)
	mustTell(t, l, []int{0, 3}, 4, "some bytes", "b", full(), "c")
	if k := d.Files(); !slices.Equal(k, []string{"log.00000000", "log.00000003"}) {
		t.Errorf("%q", k)
	}
	mustTell(t, opened(t, d, "some bytes", "b", full(), "c"), []int{0, 3}, 4, "some bytes", "b", full(), "c")
}

func TestWhatIsAnsweredIsTheAskersOwn(t *testing.T) {
	d, _, records := five(t)
	l, read, e := wal.Open(d, "log")
	must(t, "Open", e, api.OK)
	all, again := l.All(), l.All()
	overwrite(read)
	if !slices.Equal(all, records) {
		t.Error("All shares memory with what Open told")
	}
	overwrite(all[:3])
	_ = append(all[:1], "changed")
	if !slices.Equal(again, records) {
		t.Error("two answers of All share memory")
	}
	segments, more := l.Segments(), l.Segments()
	clear(segments)
	_ = append(segments[:1], 99)
	if !slices.Equal(more, []int{3, 5, 6, 9, 10}) {
		t.Error("two answers of Segments share memory")
	}
	mustTell(t, l, []int{3, 5, 6, 9, 10}, 12, records...)
	must(t, "Append", l.Append("new"), api.OK)
	if len(again) != len(records) || len(more) != 5 {
		t.Error("an answer is changed by Append")
	}
	mustTell(t, l, []int{3, 5, 6, 9, 10}, 13, append(records, "new")...)
}

// R5

func TestTheSameAgain(t *testing.T) {
	var first *disk.Disk
	for range 20 {
		d, l, records := five(t)
		must(t, "Append", l.Append("x", full(), "y"), api.OK)
		l.Drop(6)
		mustTell(t, l, []int{6, 9, 10, 14}, 15, append(records[3:], "x", full(), "y")...)
		if first == nil {
			first = d
		}
		mustBeAlike(t, d, first)
	}
}

func TestLogsOfTwoDisksAreApart(t *testing.T) {
	d, e := disk.New(), disk.New()
	l, k := opened(t, d), opened(t, e)
	must(t, "Append", l.Append("a", full(), "b"), api.OK)
	d.Cut(0)
	must(t, "Append", l.Append("c"), api.ErrDown)
	must(t, "Append", k.Append("z"), api.OK)
	mustTell(t, k, []int{0}, 1, "z")
	mustTell(t, l, []int{0, 2}, 3, "a", full(), "b")
}
