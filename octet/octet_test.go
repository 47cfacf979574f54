package octet_test

import (
	"math"
	"math/big"
	"strings"
	"testing"
	"unsafe"

	"hedgerow/api"
	"hedgerow/octet"
)

// edges: numbers at 0, below 0, at both ends of their kind, and on both sides of where one more byte is needed.
func edges() []int {
	l := []int{0, -1, 1, -2, 2, 64, 127, 128, 300, math.MaxInt, math.MinInt, math.MaxInt - 1, math.MinInt + 1}
	for k := 1; k <= 7; k++ {
		p := 1 << (8 * k)
		l = append(l, p-1, p, p+1, 1-p, -p, -p-1, 0x5a*(p>>8), -0x5a*(p>>8))
	}
	return l
}

// laid is what the chapter says of a number's bytes, worked out with numbers that have no end.
func laid(n int) string {
	m, head := big.NewInt(int64(n)), 0
	if n < 0 {
		m.Sub(m.Neg(m), big.NewInt(1))
		head = 128
	}
	return string(append([]byte{byte(head + len(m.Bytes()))}, m.Bytes()...))
}

// mustBeBad says so if anything can still be had of a reader.
func mustBeBad(t *testing.T, what string, r *octet.Reader) {
	t.Helper()
	for range 2 {
		if r.Left() != 0 || r.Done() != api.ErrFormat {
			t.Errorf("%s: Left %d, Done %d; a bad reader has nothing left", what, r.Left(), r.Done())
		}
		if n, s, c := r.Int(), r.Text(), r.Count(math.MaxInt); n != 0 || s != "" || c != 0 {
			t.Errorf("%s: a bad reader answers %d %q %d", what, n, s, c)
		}
	}
}

// 1.1

func TestIntExamples(t *testing.T) {
	for _, c := range []struct {
		n    int
		want string
	}{
		{0, "\x00"}, {-1, "\x80"}, {64, "\x01\x40"}, {-257, "\x82\x01\x00"}, {300, "\x02\x01\x2c"},
		{1, "\x01\x01"}, {-2, "\x81\x01"}, {255, "\x01\xff"}, {256, "\x02\x01\x00"}, {-256, "\x81\xff"},
		{math.MaxInt, "\x08\x7f\xff\xff\xff\xff\xff\xff\xff"}, {math.MinInt, "\x88\x7f\xff\xff\xff\xff\xff\xff\xff"},
	} {
		if s := octet.Int(c.n); s != c.want {
			t.Errorf("Int(%d) = %q, want %q", c.n, s, c.want)
		}
	}
}

func TestIntAtEdges(t *testing.T) {
	for _, n := range edges() {
		if s := octet.Int(n); s != laid(n) {
			t.Errorf("Int(%d) = %q, want %q", n, s, laid(n))
		}
	}
}

func TestIntMany(t *testing.T) {
	want := ""
	for _, n := range edges() {
		want += laid(n)
	}
	if s := octet.Int(edges()...); s != want {
		t.Errorf("%q, want %q", s, want)
	}
	if octet.Int() != "" || octet.Int(nil...) != "" || octet.Int([]int{}...) != "" {
		t.Error("no numbers have no bytes")
	}
}

func TestText(t *testing.T) {
	for _, c := range []struct {
		l    []string
		want string
	}{
		{nil, ""}, {[]string{}, ""}, {[]string{""}, "\x00"}, {[]string{"", ""}, "\x00\x00"},
		{[]string{"ab"}, "\x01\x02ab"}, {[]string{"a", "", "\x00\xff"}, "\x01\x01a\x00\x01\x02\x00\xff"},
		{[]string{"é"}, "\x01\x02\xc3\xa9"}, {[]string{"\xc3"}, "\x01\x01\xc3"},
	} {
		if s := octet.Text(c.l...); s != c.want {
			t.Errorf("Text(%q) = %q, want %q", c.l, s, c.want)
		}
	}
}

func TestTextLong(t *testing.T) {
	for _, n := range []int{255, 256, api.MaxText - 1, api.MaxText, api.MaxText + 1} {
		x := strings.Repeat("x", n)
		if octet.Text(x, "y") != laid(n)+x+"\x01\x01y" {
			t.Errorf("a text of %d bytes is its length and its bytes", n)
		}
	}
}

// 1.2

func TestReadNumbers(t *testing.T) {
	for _, n := range edges() {
		r := octet.Of(laid(n) + "rest")
		if m := r.Int(); m != n || r.Left() != 4 {
			t.Errorf("%d: read as %d, %d left", n, m, r.Left())
		}
		r = octet.Of(laid(n))
		if m := r.Int(); m != n || r.Left() != 0 || r.Done() != api.OK {
			t.Errorf("%d: read as %d, %d left, Done %d", n, m, r.Left(), r.Done())
		}
		if m := r.Int(); m != 0 {
			t.Errorf("%d behind the end", m)
		}
		mustBeBad(t, "behind the end", r)
	}
}

func TestReadTexts(t *testing.T) {
	r := octet.Of("\x00\x01\x02\x00\xff\x01\x01z")
	for _, c := range []struct {
		want string
		left int
	}{{"", 7}, {"\x00\xff", 3}, {"z", 0}} {
		if s := r.Text(); s != c.want || r.Left() != c.left {
			t.Errorf("%q, %d left, want %q, %d", s, r.Left(), c.want, c.left)
		}
	}
	if r.Done() != api.OK {
		t.Error(r.Done())
	}
}

func TestReadNothing(t *testing.T) {
	if r := octet.Of(""); r.Left() != 0 || r.Done() != api.OK {
		t.Error("of nothing all is read")
	}
	if r := new(octet.Reader); r.Left() != 0 || r.Done() != api.OK {
		t.Error("the zero reader is one of nothing")
	}
	for _, read := range []func(*octet.Reader) bool{
		func(r *octet.Reader) bool { return r.Int() == 0 },
		func(r *octet.Reader) bool { return r.Text() == "" },
		func(r *octet.Reader) bool { return r.Count(5) == 0 },
	} {
		r := octet.Of("")
		if !read(r) {
			t.Error("something was read of nothing")
		}
		mustBeBad(t, "no byte left", r)
	}
}

func TestHeads(t *testing.T) {
	for head := range 256 {
		s := string([]byte{byte(head)}) + strings.Repeat("\x01", 200)
		k := head
		if head >= 128 {
			k = head - 128
		}
		if k <= 8 {
			m := 0
			for range k {
				m = m*256 + 1
			}
			if head >= 128 {
				m = -m - 1
			}
			r := octet.Of(s)
			if n := r.Int(); n != m || r.Left() != 200-k {
				t.Errorf("head %d: %d, %d left", head, n, r.Left())
			}
			continue
		}
		for _, x := range []string{s, s[:1], s[:10]} {
			r := octet.Of(x)
			if n := r.Int(); n != 0 {
				t.Errorf("head %d: %d", head, n)
			}
			mustBeBad(t, "a head that is none", r)
		}
	}
}

func TestNumbersThatEndTooEarly(t *testing.T) {
	for _, n := range edges() {
		for i := range len(laid(n)) {
			r := octet.Of(laid(n)[:i])
			if m := r.Int(); m != 0 {
				t.Errorf("%d of %q", m, laid(n)[:i])
			}
			mustBeBad(t, "ends too early", r)
		}
	}
}

func TestNeedlessZero(t *testing.T) {
	for k := 1; k <= 8; k++ {
		for _, sign := range []int{0, 128} {
			s := string([]byte{byte(sign + k), 0}) + strings.Repeat("\xff", k-1)
			r := octet.Of(s + "more")
			if n := r.Int(); n != 0 {
				t.Errorf("%q: %d", s, n)
			}
			mustBeBad(t, "a needless 0", r)
		}
	}
}

func TestAboveEightBytes(t *testing.T) {
	for _, head := range []string{"\x08", "\x88"} {
		for _, first := range []byte{128, 129, 200, 255} {
			r := octet.Of(head + string([]byte{first}) + "\x00\x00\x00\x00\x00\x00\x00")
			if n := r.Int(); n != 0 {
				t.Error(n)
			}
			mustBeBad(t, "above what eight bytes may tell", r)
		}
	}
	// Of fewer than eight bytes the first may be above 127.
	for k := 1; k <= 7; k++ {
		s := string([]byte{byte(k), 255}) + strings.Repeat("\x00", k-1)
		if n := octet.Of(s).Int(); n != 255<<(8*(k-1)) {
			t.Errorf("%q: %d", s, n)
		}
	}
}

func TestTextsThatAreNone(t *testing.T) {
	long := strings.Repeat("x", api.MaxText+1)
	for _, s := range []string{
		"\x80", "\x80abc", "\x81\x01abc", "\x88\x7f\xff\xff\xff\xff\xff\xff\xffabc", // a length below 0
		octet.Int(api.MaxText+1) + long,               // above MaxText
		"\x08\x7f\xff\xff\xff\xff\xff\xff\xff" + long, // far above
		"\x01\x01", "\x01\x04abc", octet.Int(api.MaxText) + long[:api.MaxText-1], // above the bytes that are left
		"\x01\x00", "\x02\x00\x01a", "\x09abcdefghij", "\x01", // no length
	} {
		r := octet.Of(s)
		if x := r.Text(); x != "" {
			t.Errorf("%.20q: %.20q", s, x)
		}
		mustBeBad(t, "a text that is none", r)
	}
}

func TestTextAtMaxText(t *testing.T) {
	x := strings.Repeat("x", api.MaxText)
	r := octet.Of(octet.Text(x, "y"))
	if r.Text() != x || r.Text() != "y" || r.Done() != api.OK {
		t.Error("a text of MaxText bytes may be read")
	}
	r = octet.Of(octet.Int(3) + "abc")
	if r.Text() != "abc" || r.Done() != api.OK {
		t.Error("a text may have all bytes that are left")
	}
}

func TestCount(t *testing.T) {
	for _, c := range []struct {
		n, most int
		ok      bool
	}{
		{0, 0, true}, {0, 7, true}, {6, 7, true}, {7, 7, true}, {8, 7, false}, {1, 0, false}, {-1, 7, false}, {-1, 0, false},
		{math.MaxInt, math.MaxInt, true}, {math.MaxInt, math.MaxInt - 1, false}, {math.MinInt, math.MaxInt, false},
		{0, -1, false}, {-1, -1, false}, {-2, -1, false}, {0, math.MinInt, false}, {math.MinInt, math.MinInt, false},
	} {
		r := octet.Of(octet.Int(c.n) + "x")
		got := r.Count(c.most)
		if !c.ok {
			if got != 0 {
				t.Errorf("%d, at most %d: %d", c.n, c.most, got)
			}
			mustBeBad(t, "Count", r)
		} else if got != c.n || r.Left() != 1 {
			t.Errorf("%d, at most %d: %d, %d left", c.n, c.most, got, r.Left())
		}
	}
	r := octet.Of("\x01\x00\x00")
	if r.Count(5) != 0 {
		t.Error("a needless 0")
	}
	mustBeBad(t, "Count of no number", r)
}

func TestBadForGood(t *testing.T) {
	for _, spoil := range []func(*octet.Reader){
		func(r *octet.Reader) { r.Count(4) },
		func(r *octet.Reader) { r.Int(); r.Text(); r.Text() },
	} {
		r := octet.Of(octet.Int(5) + octet.Text("ab") + "\x09" + octet.Int(1, 2, 3))
		spoil(r)
		mustBeBad(t, "good bytes behind bad ones", r)
	}
}

func TestDoneTooEarly(t *testing.T) {
	r := octet.Of(octet.Int(5, 6))
	if r.Done() != api.ErrFormat || r.Int() != 5 || r.Done() != api.ErrFormat {
		t.Error("something is left")
	}
	if r.Int() != 6 || r.Done() != api.OK || r.Done() != api.OK {
		t.Error("that something was left spoils nothing") // R3
	}
}

func TestNilReader(t *testing.T) {
	var r *octet.Reader
	if r.Int() != 0 || r.Text() != "" || r.Left() != 0 || r.Done() != api.ErrFormat {
		t.Error("a nil reader")
	}
	for _, most := range []int{0, 1, -1, math.MaxInt, math.MinInt} {
		if r.Count(most) != 0 {
			t.Error("Count of a nil reader", most)
		}
	}
}

// 1.3

func TestWhatIsLaidIsRead(t *testing.T) {
	texts := []string{"", "a", "\x00", strings.Repeat("\xff", 255), strings.Repeat("b", 256), strings.Repeat("c", api.MaxText)}
	s := ""
	for i, n := range edges() {
		s += octet.Int(n) + octet.Text(texts[i%len(texts)])
	}
	r := octet.Of(s)
	for i, n := range edges() {
		if m, x := r.Int(), r.Text(); m != n || x != texts[i%len(texts)] {
			t.Fatalf("%d: %d %.20q", i, m, x)
		}
	}
	if r.Done() != api.OK {
		t.Error(r.Done())
	}
}

func TestNoneBeginsAnother(t *testing.T) {
	var numbers, texts []string
	seen := map[int]bool{}
	for _, n := range edges() {
		if !seen[n] {
			seen[n] = true
			numbers = append(numbers, octet.Int(n))
		}
	}
	for _, x := range []string{"", "\x00", "\x00\x00", "\x01", "\x01\x01", "a", "ab", "abc", strings.Repeat("\x00", 255), strings.Repeat("\x00", 256), strings.Repeat("\x00", 257)} {
		texts = append(texts, octet.Text(x))
	}
	for _, l := range [][]string{numbers, texts} {
		for i, a := range l {
			for j, b := range l {
				if i != j && strings.HasPrefix(b, a) {
					t.Errorf("%.20q begins %.20q", a, b)
				}
			}
		}
	}
}

// R6: whatever is read has just the bytes that are laid of it. Goes through all short bytes, and some longer ones.
func TestOneEncoding(t *testing.T) {
	check := func(s string) {
		r := octet.Of(s)
		if n := r.Int(); r.Done() == api.OK && octet.Int(n) != s {
			t.Fatalf("%q is read as %d, of which %q is laid", s, n, octet.Int(n))
		}
		r = octet.Of(s)
		if x := r.Text(); r.Done() == api.OK && octet.Text(x) != s {
			t.Fatalf("%q is read as %q, of which %q is laid", s, x, octet.Text(x))
		}
	}
	check("")
	for a := range 256 {
		check(string([]byte{byte(a)}))
		for b := range 256 {
			check(string([]byte{byte(a), byte(b)}))
			for _, c := range []byte{0, 1, 127, 128, 255} {
				check(string([]byte{byte(a), byte(b), c}))
				check(string([]byte{byte(a), byte(b), c, c, c, c, c, c, c}))
			}
		}
	}
}

// P1, R1: any calls in any order end, and leave no more behind than was there.
func TestAnyBytesAnyCalls(t *testing.T) {
	seed := uint32(1)
	next := func(n int) int {
		seed = seed*1664525 + 1013904223
		return int(seed>>16) % n
	}
	bytes := []byte{0, 1, 2, 3, 7, 8, 9, 127, 128, 129, 136, 137, 255}
	for range 20000 {
		b := make([]byte, next(24))
		for i := range b {
			b[i] = bytes[next(len(bytes))]
		}
		r := octet.Of(string(b))
		left := r.Left()
		if left != len(b) {
			t.Fatalf("%d left of %d", left, len(b))
		}
		for range 12 {
			switch next(3) {
			case 0:
				r.Int()
			case 1:
				r.Text()
			case 2:
				if most := next(5) - 1; r.Count(most) > max(most, 0) {
					t.Fatal("Count above most")
				}
			}
			if r.Left() > left {
				t.Fatal("more is left than was")
			}
			left = r.Left()
			if left > 0 && r.Done() != api.ErrFormat {
				t.Fatal("done while something is left")
			}
		}
	}
}

// R4

func TestListsAreLeftAlone(t *testing.T) {
	n := []int{1, -2, 3, 4}
	octet.Int(n[:2]...)
	s := []string{"a", "b", "c"}
	octet.Text(s[:1]...)
	if n[0] != 1 || n[1] != -2 || n[2] != 3 || n[3] != 4 || s[0] != "a" || s[1] != "b" || s[2] != "c" {
		t.Error(n, s)
	}
	if octet.Int(n[:2]...) != octet.Int(1, -2) || octet.Text(s[:1]...) != octet.Text("a") {
		t.Error("what lies behind a list's length was read")
	}
}

func TestNoMemoryIsShared(t *testing.T) {
	b := []byte(octet.Text("abc", "def"))
	r := octet.Of(unsafe.String(&b[0], len(b)))
	clear(b)
	first := r.Text()
	if first != "abc" || r.Text() != "def" || r.Done() != api.OK {
		t.Error("a reader keeps what is handed in as it is")
	}
	long := strings.Repeat("x", 100)
	if s := octet.Text(long); within(s, long) || within(long, s) {
		t.Error("bytes share memory with their text")
	}
	s := octet.Text(long, long)
	r = octet.Of(s)
	x, y := r.Text(), r.Text()
	if within(x, s) || within(y, s) {
		t.Error("a text shares memory with the bytes it was read of")
	}
	if place(y)-place(x) == uintptr(len(s)/2) {
		t.Error("texts are pieces of the reader's bytes")
	}
}

func place(s string) uintptr { return uintptr(unsafe.Pointer(unsafe.StringData(s))) }

// within tells whether a begins in the memory of b.
func within(a, b string) bool {
	return place(a) >= place(b) && place(a) < place(b)+uintptr(len(b))
}

// R5

func TestReadersAreApart(t *testing.T) {
	s := octet.Int(1, 2)
	a, b := octet.Of(s), octet.Of(s)
	if a.Int() != 1 || a.Int() != 2 || a.Int() != 0 || a.Done() != api.ErrFormat {
		t.Error("the one")
	}
	if b.Left() != 4 || b.Int() != 1 || b.Int() != 2 || b.Done() != api.OK {
		t.Error("the other")
	}
}

// The calls have the chapter's signatures: any number of things is laid by one call.
var (
	_ func(...int) string           = octet.Int
	_ func(...string) string        = octet.Text
	_ func(string) *octet.Reader    = octet.Of
	_ func(*octet.Reader) int       = (*octet.Reader).Int
	_ func(*octet.Reader) string    = (*octet.Reader).Text
	_ func(*octet.Reader, int) int  = (*octet.Reader).Count
	_ func(*octet.Reader) int       = (*octet.Reader).Left
	_ func(*octet.Reader) api.Errno = (*octet.Reader).Done
)
