package frame_test

import (
	"math"
	"slices"
	"strings"
	"testing"
	"unsafe"

	"hedgerow/api"
	"hedgerow/frame"
)

// sum is the chapter's, bit by bit.
func sum(s string) uint32 {
	register := uint32(0xffffffff)
	for i := range len(s) {
		register ^= uint32(s[i])
		for range 8 {
			if register&1 == 1 {
				register = register>>1 ^ 0xedb88320
			} else {
				register >>= 1
			}
		}
	}
	return register ^ 0xffffffff
}

// three and four are numbers as bytes, the highest first.
func three(n int) string { return string([]byte{byte(n >> 16), byte(n >> 8), byte(n)}) }

func four(n uint32) string {
	return string([]byte{byte(n >> 24), byte(n >> 16), byte(n >> 8), byte(n)})
}

// framed is the chapter's frame of a text.
func framed(s string) string {
	body := three(len(s)) + s
	return body + four(sum(body))
}

// turned is s with the bytes from at on exclusive-ored with those of turns.
func turned(s string, at int, turns ...byte) string {
	b := []byte(s)
	for i, x := range turns {
		b[at+i] ^= x
	}
	return string(b)
}

// every is a text of all bytes, n of each.
func every(n int) string {
	b := make([]byte, 256*n)
	for i := range b {
		b[i] = byte(i)
	}
	return string(b)
}

// texts: empty and short ones, bytes of all values, and lengths at both sides of where a byte of the length is full, up to the longest.
func texts() []string {
	l := []string{"", "a", "\x00", "\xff", "abc", "\x00\x00\x00", "\xff\xff\xff\xff", "é", every(1), framed("abc")}
	for b := range 256 {
		l = append(l, string([]byte{byte(b)}), string([]byte{0, byte(b), 255}))
	}
	for _, n := range []int{255, 256, 257, 4095, api.MaxText - 257, api.MaxText - 1, api.MaxText} {
		l = append(l, strings.Repeat("x", n), every(257)[:n], strings.Repeat("\x00", n))
	}
	return l
}

// mustRead says so if at a place there is not the frame of this text, with its end at next.
func mustRead(t *testing.T, s string, at int, want string, next int) {
	t.Helper()
	if x, n, e := frame.First(s, at); x != want || n != next || e != api.OK {
		t.Errorf("at %d of %d bytes: a text of %d, %d, %d; want one of %d, %d", at, len(s), len(x), n, e, len(want), next)
	}
}

// mustRefuse says so if a place is not refused by this error, with nothing beside it.
func mustRefuse(t *testing.T, s string, at int, want api.Errno) {
	t.Helper()
	if x, n, e := frame.First(s, at); x != "" || n != 0 || e != want {
		t.Errorf("at %d of %d bytes: a text of %d, %d, %d; want the error %d alone", at, len(s), len(x), n, e, want)
	}
}

// mustHave says so if All does not answer these texts, and this place.
func mustHave(t *testing.T, s string, want []string, place int) {
	t.Helper()
	if l, at := frame.All(s); !slices.Equal(l, want) || at != place {
		t.Errorf("of %d bytes: %d texts, %d; want %d, %d", len(s), len(l), at, len(want), place)
	}
}

// 5.1

func TestSumExamples(t *testing.T) {
	for _, c := range []struct {
		l    []string
		want uint32
	}{
		{[]string{"123456789"}, 0xcbf43926}, {[]string{"\x00\x00\x00"}, 0xff41d912},
		{nil, 0}, {[]string{}, 0}, {[]string{""}, 0}, {[]string{"", "", ""}, 0},
		{[]string{"a"}, 0xe8b7be43}, {[]string{"\x00"}, 0xd202ef8d}, {[]string{"\xff"}, 0xff000000},
		{[]string{"12", "", "3456789"}, 0xcbf43926},
	} {
		if n := frame.Sum(c.l...); n != c.want {
			t.Errorf("Sum(%q) = %x, want %x", c.l, n, c.want)
		}
	}
}

func TestSumOfAllBytes(t *testing.T) {
	for _, s := range texts() {
		if n := frame.Sum(s); n != sum(s) {
			t.Errorf("the sum of %d bytes is %x, want %x", len(s), n, sum(s))
		}
	}
	for b := range 256 {
		for c := range 256 {
			s := string([]byte{byte(b), byte(c)})
			if n := frame.Sum(s); n != sum(s) {
				t.Errorf("Sum(%q) = %x, want %x", s, n, sum(s))
			}
		}
	}
}

func TestSumHoweverParted(t *testing.T) {
	s := "\x00\xffwhat is \x80 parted"
	want := sum(s)
	for i := range len(s) + 1 {
		for j := i; j <= len(s); j++ {
			if n := frame.Sum(s[:i], s[i:j], s[j:]); n != want {
				t.Errorf("parted at %d and %d: %x, want %x", i, j, n, want)
			}
		}
	}
	if n := frame.Sum(strings.Split(s, "")...); n != want {
		t.Errorf("byte by byte: %x, want %x", n, want)
	}
	if n := frame.Sum("", s, "", ""); n != want {
		t.Errorf("with empty texts: %x, want %x", n, want)
	}
	if frame.Sum("ab", "c") == frame.Sum("c", "ab") {
		t.Error("the order of the texts counts")
	}
}

func TestFrame(t *testing.T) {
	for _, s := range texts() {
		if f, e := frame.Frame(s); f != framed(s) || e != api.OK {
			t.Errorf("a text of %d bytes: %d bytes, %d", len(s), len(f), e)
		}
	}
	if f, e := frame.Frame(""); f != "\x00\x00\x00\xff\x41\xd9\x12" || e != api.OK {
		t.Errorf("%q %d", f, e)
	}
}

func TestFrameTooLong(t *testing.T) {
	for _, n := range []int{api.MaxText + 1, api.MaxText + 256, 2 * api.MaxText, 1 << 24, 1<<24 + 1} {
		if f, e := frame.Frame(strings.Repeat("a", n)); f != "" || e != api.ErrArg {
			t.Errorf("a text of %d bytes: %d bytes, %d", n, len(f), e)
		}
	}
}

// 5.2

func TestFirst(t *testing.T) {
	for _, s := range texts() {
		f := framed(s)
		mustRead(t, f, 0, s, len(f))
		mustRead(t, f+"z", 0, s, len(f))
		mustRead(t, "\xff\xff"+f, 2, s, 2+len(f))
		mustRead(t, f+f, len(f), s, 2*len(f))
	}
}

func TestFirstAtPlaces(t *testing.T) {
	f := framed("abc")
	for _, at := range []int{-1, -2, -len(f), len(f) + 1, len(f) + 2, 2 * len(f), math.MaxInt, math.MaxInt - 1, math.MinInt, math.MinInt + 1, math.MaxInt32, math.MinInt32} {
		mustRefuse(t, f, at, api.ErrArg)
		mustRefuse(t, "", at, api.ErrArg)
	}
	for _, at := range []int{len(f), len(f) - 1, len(f) - 2} {
		mustRefuse(t, f, at, api.ErrEnd)
	}
	mustRefuse(t, "", 0, api.ErrEnd)
	mustRefuse(t, "", 1, api.ErrArg)
}

func TestFirstOfFewBytes(t *testing.T) {
	for _, s := range []string{"", "\x00", "\x00\x00", "\x00\x00\x00", "\xff", "\xff\xff", "\x02\x00", "\x01\x00\x00", "\x00\xff\xff"} {
		mustRefuse(t, s, 0, api.ErrEnd)
		mustRefuse(t, framed("ahead")+s, len(framed("ahead")), api.ErrEnd)
	}
}

func TestFirstOfLengths(t *testing.T) {
	for _, n := range []int{api.MaxText + 1, api.MaxText + 2, 0x0100ff, 0x020000, 0x800000, 0xffffff} {
		long := strings.Repeat("a", min(n, 1<<18))
		mustRefuse(t, three(n), 0, api.ErrFormat) // a length above MaxText is told ahead of an end
		mustRefuse(t, three(n)+"abcd", 0, api.ErrFormat)
		mustRefuse(t, framed(long), 0, api.ErrFormat)
	}
	for _, n := range []int{0, 1, 255, 256, api.MaxText - 1, api.MaxText} {
		mustRefuse(t, three(n), 0, api.ErrEnd)
	}
}

func TestFirstAtTheEnd(t *testing.T) {
	for _, s := range []string{"", "a", "abc", every(1), strings.Repeat("a", api.MaxText)} {
		f := framed(s)
		for _, cut := range []int{1, 2, 3, 4} {
			mustRefuse(t, f[:len(f)-cut], 0, api.ErrEnd)
			mustRefuse(t, "z"+f[:len(f)-cut], 1, api.ErrEnd)
			mustRefuse(t, turned(f, 3, 1)[:len(f)-cut], 0, api.ErrEnd) // an end is told ahead of a sum
		}
	}
}

func TestFirstOfLengthsThatLie(t *testing.T) {
	s := "abcdefgh"
	f := framed(s)
	for n := range 2 * len(s) {
		lie := three(n) + f[3:]
		switch {
		case n < len(s):
			mustRefuse(t, lie, 0, api.ErrSum)
		case n == len(s):
			mustRead(t, lie, 0, s, len(f))
		default:
			mustRefuse(t, lie, 0, api.ErrEnd)
			mustRefuse(t, lie+strings.Repeat("z", n), 0, api.ErrSum)
		}
	}
}

func TestFirstOfOtherSums(t *testing.T) {
	for _, s := range []string{"", "a", "abc", every(1), strings.Repeat("a", api.MaxText)} {
		f := framed(s)
		at := len(f) - 4
		for i := range 4 {
			for bit := range 8 {
				mustRefuse(t, turned(f, at+i, 1<<bit), 0, api.ErrSum)
			}
		}
		mustRefuse(t, f[:at]+four(^sum(f[:at])), 0, api.ErrSum)
		mustRefuse(t, f[:at]+four(sum(f[:at])+1), 0, api.ErrSum)
	}
	mustRefuse(t, "\x00\x00\x00abcd", 0, api.ErrSum)
	mustRefuse(t, "\x00\x00\x00\x00\x00\x00\x00", 0, api.ErrSum)
	mustRefuse(t, three(3)+"abc"+four(sum("abc")), 0, api.ErrSum)          // the length is summed too
	mustRefuse(t, "\x00\x00\x00\x12\xd9\x41\xff", 0, api.ErrSum)           // the highest byte comes first
	mustRefuse(t, "\x03\x00\x00abc"+four(sum("abc")), 0, api.ErrFormat)    // in a length too
	mustRefuse(t, turned(framed("abc"), 0, 0, 0, 2)+"zz", 0, api.ErrSum)   // a length of 1
	mustRefuse(t, turned(framed("abc"), 0, 0, 0, 0x80)+"z", 0, api.ErrEnd) // and of 131
}

func TestAll(t *testing.T) {
	for _, s := range texts() {
		f := framed(s)
		mustHave(t, f, []string{s}, len(f))
		mustHave(t, f+framed("abc")+f, []string{s, "abc", s}, 2*len(f)+10)
		mustHave(t, "z"+f, nil, 0)
	}
	mustHave(t, "", nil, 0)
	mustHave(t, framed(""), []string{""}, 7)
	mustHave(t, strings.Repeat(framed(""), 1000), make([]string, 1000), 7000)
}

func TestAllUpToWhatIsNone(t *testing.T) {
	ahead := framed("one") + framed("")
	want := []string{"one", ""}
	for _, tail := range []string{"", "z", "\x00\x00\x00", "\x00\x00\x00abcd", "\x01\x00\x01", three(api.MaxText), framed("three")[:11], turned(framed("three"), 4, 1)} {
		mustHave(t, ahead+tail, want, len(ahead))
		if f := ahead + tail + framed("lost"); tail != "" {
			mustHave(t, f, want, len(ahead))
		}
	}
}

// 5.3

func TestFramesAreReadAgain(t *testing.T) {
	var want []string
	s := ""
	for _, x := range texts() {
		f, e := frame.Frame(x)
		if e != api.OK {
			t.Fatalf("a text of %d bytes: %d", len(x), e)
		}
		want, s = append(want, x), s+f
	}
	mustHave(t, s, want, len(s))
	at := 0
	for _, x := range want {
		next := at + len(x) + 7
		mustRead(t, s, at, x, next)
		at = next
	}
	mustRefuse(t, s, at, api.ErrEnd)
}

func TestFramesAreCut(t *testing.T) {
	want := []string{"", "a", "\x00\x00\x00", every(1), "", strings.Repeat("\xff", 300), framed("inner"), "z"}
	s := ""
	ends := []int{0}
	for _, x := range want {
		f, _ := frame.Frame(x)
		s += f
		ends = append(ends, len(s))
	}
	n := 0
	for cut := range len(s) + 1 {
		if n < len(want) && cut == ends[n+1] {
			n++
		}
		mustHave(t, s[:cut], want[:n], ends[n])
	}
	if n != len(want) {
		t.Errorf("%d frames of %d", n, len(want))
	}
}

func TestTextsThatWereTurned(t *testing.T) {
	for _, s := range []string{"a", "ab", "abcd", "abcdefg", strings.Repeat("\x00", 16), strings.Repeat("\xff", 16), every(1)} {
		f, _ := frame.Frame(s)
		for at := range len(s) {
			for bit := range 256 {
				mustNotBeOne(t, f, turned(f, 3+at, byte(bit)))
			}
			for width := 2; width <= 4 && at+width <= len(s); width++ {
				for k := range 256 {
					turns := []byte{byte(k), byte(k * 7), byte(k*31 + 5), byte(k ^ 0xff)}
					mustNotBeOne(t, f, turned(f, 3+at, turns[:width]...))
				}
			}
		}
	}
}

func TestLongTextsThatWereTurned(t *testing.T) {
	for _, n := range []int{api.MaxText - 1, api.MaxText} {
		f, _ := frame.Frame(every(256)[:n])
		for _, at := range []int{0, 1, n / 2, n/2 + 1, n - 5, n - 4} {
			for _, turns := range [][]byte{{1}, {0x80}, {0xff}, {1, 1}, {0xff, 0xff, 0xff}, {0x80, 0, 0, 1}, {0x20, 0x83, 0xb8, 0xed}, {0xff, 0xff, 0xff, 0xff}} {
				mustNotBeOne(t, f, turned(f, 3+at, turns...))
			}
		}
		mustNotBeOne(t, f, turned(f, 3+n-1, 1))
	}
}

func TestSumsThatWereTurned(t *testing.T) {
	for _, s := range []string{"", "a", every(1)} {
		f, _ := frame.Frame(s)
		for i := range 4 {
			for bit := range 256 {
				mustNotBeOne(t, f, turned(f, len(f)-4+i, byte(bit)))
			}
		}
	}
}

// mustNotBeOne says so if what was made of a frame is still taken for one.
func mustNotBeOne(t *testing.T, f, other string) {
	t.Helper()
	if other == f {
		return
	}
	mustRefuse(t, other, 0, api.ErrSum)
	if l, at := frame.All(other); len(l) != 0 || at != 0 {
		t.Errorf("%d frames, %d", len(l), at)
	}
}

// P1, R1, R2

func TestWhateverBytes(t *testing.T) {
	n := uint32(1)
	next := func() byte { // bytes without a plan, the same in every run
		n = n*1664525 + 1013904223
		return byte(n >> 24)
	}
	for size := range 300 {
		b := make([]byte, size)
		for i := range b {
			if b[i] = next(); next() < 128 {
				b[i] = 0
			}
		}
		s := string(b)
		for at := -2; at <= size+2; at++ {
			want, place, e := first(s, at)
			if e == api.OK {
				mustRead(t, s, at, want, place)
			} else {
				mustRefuse(t, s, at, e)
			}
		}
		if l, at := frame.All(s); at < 0 || at > size || len(l)*7 > at {
			t.Errorf("%d texts, %d of %d bytes", len(l), at, size)
		}
	}
}

// first is First by the chapter's words, one behind the other.
func first(s string, at int) (string, int, api.Errno) {
	if at < 0 || at > len(s) {
		return "", 0, api.ErrArg
	}
	left := len(s) - at
	if left < 3 {
		return "", 0, api.ErrEnd
	}
	n := int(s[at])<<16 + int(s[at+1])<<8 + int(s[at+2])
	if n > api.MaxText {
		return "", 0, api.ErrFormat
	}
	if left < n+7 {
		return "", 0, api.ErrEnd
	}
	if s[at:at+n+7] != framed(s[at+3:at+3+n]) {
		return "", 0, api.ErrSum
	}
	return s[at+3 : at+3+n], at + n + 7, api.OK
}

// R4

func TestArgumentsStay(t *testing.T) {
	l := []string{"a", "b", "c"}
	if frame.Sum(l[:2]...) != frame.Sum("ab") {
		t.Error("what lies behind a list's length was read")
	}
	if !slices.Equal(l, []string{"a", "b", "c"}) {
		t.Error(l)
	}
	b := []byte(framed("abc") + framed("d"))
	s := unsafe.String(&b[0], len(b))
	frame.Sum(s)
	frame.Frame(s)
	frame.First(s, 0)
	frame.All(s)
	if string(b) != framed("abc")+framed("d") {
		t.Errorf("%q", b)
	}
}

func TestNoMemoryIsShared(t *testing.T) {
	long := strings.Repeat("x", 100)
	f, _ := frame.Frame(long)
	if within(f, long) || within(long, f) {
		t.Error("a frame shares memory with its text")
	}
	s := f + f
	x, _, _ := frame.First(s, 0)
	y, _, _ := frame.First(s, 0)
	if within(x, s) || within(y, s) || within(x, y) {
		t.Error("a text shares memory with the bytes it was read of, or with another answer")
	}
	l, _ := frame.All(s)
	m, _ := frame.All(s)
	if within(l[0], s) || within(l[1], s) || within(l[0], l[1]) || within(l[0], m[0]) || &l[0] == &m[0] {
		t.Error("texts share memory")
	}
	if step := place(l[1]) - place(l[0]); step == uintptr(len(f)) {
		t.Error("texts are pieces of one copy")
	}
	l[0] = "other"
	if m, _ := frame.All(s); m[0] != long {
		t.Error("an answer is kept")
	}
}

func TestBytesThatChangeLater(t *testing.T) {
	b := []byte(framed("abc") + framed("def"))
	s := unsafe.String(&b[0], len(b))
	x, _, _ := frame.First(s, 0)
	l, _ := frame.All(s)
	clear(b)
	if x != "abc" || !slices.Equal(l, []string{"abc", "def"}) {
		t.Errorf("%q %q: what was answered hangs on the bytes that were handed in", x, l)
	}
}

func place(s string) uintptr { return uintptr(unsafe.Pointer(unsafe.StringData(s))) }

// within tells whether a begins in the memory of b.
func within(a, b string) bool {
	return place(a) >= place(b) && place(a) < place(b)+uintptr(len(b))
}

// R5

func TestTheSameAgain(t *testing.T) {
	f := framed("abc")
	for range 3 {
		frame.First(f[:5], 0) // what was refused leaves nothing
		frame.Frame(strings.Repeat("z", api.MaxText+1))
		if g, e := frame.Frame("abc"); g != f || e != api.OK {
			t.Errorf("%q %d", g, e)
		}
		mustRead(t, f, 0, "abc", len(f))
		mustHave(t, f+f, []string{"abc", "abc"}, 2*len(f))
	}
}
