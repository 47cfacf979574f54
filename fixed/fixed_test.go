package fixed_test

import (
	"math"
	"math/big"
	"regexp"
	"slices"
	"strings"
	"testing"
	"unsafe"

	"hedgerow/api"
	"hedgerow/fixed"
)

// edges: numbers at 0, below 0, at and beyond -Max and Max, at both ends of their kind, and on both sides of what is whole, rising.
func edges() []int {
	l := []int{0, math.MaxInt, math.MaxInt - 1, math.MinInt, math.MinInt + 1}
	for _, n := range []int{1, 2, 3, 7, 127, 128, 255, 256, 257, 384, 511, 512, 640, 1000, 1<<15 + 1, 1 << 19, 1<<22 - 1, 1 << 22,
		api.Max/3 + 1, api.Max/2 - 1, api.Max / 2, api.Max - 257, api.Max - 256, api.Max - 255, api.Max - 1, api.Max, api.Max + 1, api.Max + 256, 2 * api.Max, 1 << 32, 1 << 55, 1 << 56, 1 << 62} {
		l = append(l, n, -n)
	}
	slices.Sort(l)
	return l
}

// nearest is what the chapter says of Clamp, of numbers that have no end.
func nearest(n *big.Int) int {
	for _, end := range []int64{api.Max, -api.Max} {
		if e := big.NewInt(end); n.CmpAbs(e) > 0 && n.Sign() == e.Sign() {
			return int(end)
		}
	}
	return int(n.Int64())
}

// of is a number that is handed in, as it counts.
func of(n int) *big.Int { return big.NewInt(int64(nearest(big.NewInt(int64(n))))) }

// floored is the greatest whole number not above a / b.
func floored(a, b *big.Int) *big.Int {
	if b.Sign() < 0 {
		a, b = new(big.Int).Neg(a), new(big.Int).Neg(b)
	}
	return new(big.Int).Div(a, b) // of a divisor above 0, big's quotient is that one
}

// shown is what the chapter says of Show, worked out with numbers that have no end.
func shown(n int) string {
	s := big.NewRat(of(n).Int64(), api.Unit).FloatString(8)
	return strings.TrimSuffix(strings.TrimRight(s, "0"), ".")
}

var form = regexp.MustCompile(`^(0|-?[1-9][0-9]*|-?(0|[1-9][0-9]*)\.[0-9]{0,7}[1-9])$`)

// read is what the chapter says of Read.
func read(s string) (int, api.Errno) {
	if !form.MatchString(s) {
		return 0, api.ErrFormat
	}
	r, _ := new(big.Rat).SetString(s)
	r.Mul(r, big.NewRat(api.Unit, 1))
	if !r.IsInt() || r.Num().CmpAbs(big.NewInt(api.Max)) > 0 {
		return 0, api.ErrFormat
	}
	return int(r.Num().Int64()), api.OK
}

// chance is the same row of numbers each time.
func chance() func(n int) int {
	seed := uint64(1)
	return func(n int) int {
		seed = seed*6364136223846793005 + 1442695040888963407
		return int((seed >> 33) % uint64(n))
	}
}

// anyNumber is a number of any size.
func anyNumber(next func(int) int) int {
	n := (next(1<<31) << 33) ^ (next(1<<31) << 8) ^ next(1<<8)
	return n >> next(64)
}

// 2.1

func TestClamp(t *testing.T) {
	for _, c := range [][2]int{
		{0, 0}, {7, 7}, {-7, -7}, {api.Max - 1, api.Max - 1}, {api.Max, api.Max}, {api.Max + 1, api.Max}, {math.MaxInt, api.Max},
		{1 - api.Max, 1 - api.Max}, {-api.Max, -api.Max}, {-api.Max - 1, -api.Max}, {math.MinInt, -api.Max}, {1 << 32, api.Max}, {-1 << 32, -api.Max},
	} {
		if n := fixed.Clamp(c[0]); n != c[1] {
			t.Errorf("Clamp(%d) = %d, want %d", c[0], n, c[1])
		}
	}
	for _, n := range edges() {
		if c := fixed.Clamp(n); c != nearest(big.NewInt(int64(n))) {
			t.Errorf("Clamp(%d) = %d", n, c)
		}
	}
}

func TestAdd(t *testing.T) {
	for _, c := range []struct {
		n    []int
		want int
	}{
		{nil, 0}, {[]int{}, 0}, {[]int{0}, 0}, {[]int{5}, 5}, {[]int{-5}, -5}, {[]int{3, -5}, -2}, {[]int{1, 2, 3, 4}, 10},
		{[]int{api.Max, 1, -1}, api.Max - 1}, // brought to Max on the way
		{[]int{1, api.Max, -1}, api.Max - 1},
		{[]int{api.Max, -1, 1}, api.Max},
		{[]int{-api.Max, -1, 1}, 1 - api.Max},
		{[]int{-1, -api.Max, 1}, 1 - api.Max},
		{[]int{api.Max, api.Max, -api.Max}, 0},
		{[]int{api.Max, api.Max, -api.Max, -api.Max}, -api.Max},
		{[]int{api.Max, -api.Max}, 0},
		{[]int{2 * api.Max, -1}, api.Max - 1}, // each one counts as its Clamp
		{[]int{-1, 2 * api.Max}, api.Max - 1},
		{[]int{-5, api.Max + 5}, api.Max - 5},
		{[]int{5, -api.Max - 5}, 5 - api.Max},
		{[]int{math.MaxInt}, api.Max}, {[]int{math.MinInt}, -api.Max},
		{[]int{math.MaxInt, math.MinInt}, 0}, {[]int{math.MinInt, math.MaxInt}, 0},
		{[]int{math.MaxInt, math.MaxInt, 1, -2}, api.Max - 2}, {[]int{math.MinInt, math.MinInt, -1, 2}, 2 - api.Max},
	} {
		if n := fixed.Add(c.n...); n != c.want {
			t.Errorf("Add(%d) = %d, want %d", c.n, n, c.want)
		}
	}
}

func TestAddMany(t *testing.T) {
	next := chance()
	for range 2000 {
		l, sum := make([]int, next(12)), new(big.Int)
		for i := range l {
			l[i] = anyNumber(next)
			if next(2) == 0 {
				l[i] = edges()[next(len(edges()))]
			}
			sum = big.NewInt(int64(nearest(sum.Add(sum, of(l[i])))))
		}
		if n := fixed.Add(l...); int64(n) != sum.Int64() {
			t.Fatalf("Add(%d) = %d, want %d", l, n, sum)
		}
	}
	if n := fixed.Add(make([]int, 100000)...); n != 0 {
		t.Error(n)
	}
}

func TestMulAndDivExamples(t *testing.T) {
	for _, c := range [][3]int{
		{0, 0, 0}, {384, -384, -576}, {1, -1, -1}, {-1, 1, -1}, {1, 1, 0}, {-1, -1, 0}, {256, 7, 7}, {7, 256, 7}, {-256, 7, -7}, {255, 255, 254}, {255, -255, -255},
		{16, 16, 1}, {16, -16, -1}, {16, -17, -2}, {api.Max, 256, api.Max}, {api.Max, 257, api.Max}, {api.Max, -257, -api.Max}, {api.Max, 255, api.Max - api.Max/256},
		{api.Max, api.Max, api.Max}, {-api.Max, api.Max, -api.Max}, {-api.Max, -api.Max, api.Max}, {2 * api.Max, 128, api.Max / 2}, {128, -2 * api.Max, -api.Max / 2},
		{math.MinInt, math.MinInt, api.Max}, {math.MinInt, 0, 0}, {math.MaxInt, 1, api.Max / 256}, {1 << 62, 1 << 62, api.Max},
	} {
		if n := fixed.Mul(c[0], c[1]); n != c[2] {
			t.Errorf("Mul(%d, %d) = %d, want %d", c[0], c[1], n, c[2])
		}
	}
	for _, c := range [][3]int{
		{0, 1, 0}, {0, -1, 0}, {1, 512, 0}, {-1, 512, -1}, {1, -512, -1}, {-1, -512, 0}, {512, 256, 512}, {-7, -256, 7}, {7, 3, 597}, {-7, 3, -598}, {7, -3, -598}, {-7, -3, 597},
		{6, 3, 512}, {-6, 3, -512}, {6, -3, -512}, {api.Max, 256, api.Max}, {api.Max, 255, api.Max}, {-api.Max, 255, -api.Max}, {api.Max, 1, api.Max}, {api.Max, -1, -api.Max}, {-api.Max, -1, api.Max},
		{1, api.Max, 0}, {-1, api.Max, -1}, {2 * api.Max, 2 * api.Max, 256}, {api.Max, math.MinInt, -256}, {math.MinInt, math.MaxInt, -256}, {math.MinInt, -1, api.Max}, {512, 2 * api.Max, 0}, {-512, 2 * api.Max, -1},
		{1 << 22, 1 << 40, 1}, {1 << 40, 1024, 1 << 28},
	} {
		if n, e := fixed.Div(c[0], c[1]); n != c[2] || e != api.OK {
			t.Errorf("Div(%d, %d) = %d %d, want %d", c[0], c[1], n, e, c[2])
		}
	}
}

// mustMulAndDiv holds a product and a quotient against what the chapter says, worked out with numbers that have no end.
func mustMulAndDiv(t *testing.T, a, b int) {
	t.Helper()
	unit := big.NewInt(api.Unit)
	if n, want := fixed.Mul(a, b), nearest(floored(new(big.Int).Mul(of(a), of(b)), unit)); n != want {
		t.Errorf("Mul(%d, %d) = %d, want %d", a, b, n, want)
	}
	if b == 0 {
		return
	}
	want := nearest(floored(new(big.Int).Mul(of(a), unit), of(b)))
	if n, e := fixed.Div(a, b); n != want || e != api.OK {
		t.Errorf("Div(%d, %d) = %d %d, want %d", a, b, n, e, want)
	}
}

func TestMulAndDivAtEdges(t *testing.T) {
	for _, a := range edges() {
		for _, b := range edges() {
			mustMulAndDiv(t, a, b)
		}
	}
}

func TestMulAndDivMany(t *testing.T) {
	for a := -40; a <= 40; a++ {
		for b := -40; b <= 40; b++ {
			mustMulAndDiv(t, a, b)
		}
	}
	next := chance()
	for range 20000 {
		mustMulAndDiv(t, anyNumber(next), anyNumber(next))
	}
}

func TestDivByZero(t *testing.T) {
	for _, a := range edges() {
		if n, e := fixed.Div(a, 0); n != 0 || e != api.ErrZero {
			t.Errorf("Div(%d, 0) = %d %d", a, n, e)
		}
	}
}

// 2.2

// texts: what numbers are shown as, with one to eight digits behind the point, and with none.
func texts() map[int]string {
	return map[int]string{
		0: "0", 256: "1", -256: "-1", 2560: "10", -25600: "-100", api.Max: "4194304", -api.Max: "-4194304", 1<<30 - 256: "4194303",
		128: "0.5", -128: "-0.5", -640: "-2.5", 2688: "10.5", 64: "0.25", -192: "-0.75", 32: "0.125", 16: "0.0625", -272: "-1.0625",
		8: "0.03125", 4: "0.015625", 2: "0.0078125", 1: "0.00390625", -1: "-0.00390625", 255: "0.99609375", 257: "1.00390625",
		api.Max - 1: "4194303.99609375", 1 - api.Max: "-4194303.99609375", 257 - api.Max: "-4194302.99609375", 1<<30 - 255: "4194303.00390625",
	}
}

func TestShowExamples(t *testing.T) {
	for n, want := range texts() {
		if s := fixed.Show(n); s != want {
			t.Errorf("Show(%d) = %q, want %q", n, s, want)
		}
	}
	for _, n := range []int{api.Max + 1, api.Max + 128, api.Max + 256, math.MaxInt} {
		if s := fixed.Show(n); s != "4194304" {
			t.Errorf("Show(%d) = %q", n, s)
		}
	}
	for _, n := range []int{-api.Max - 1, -api.Max - 128, -api.Max - 256, math.MinInt} {
		if s := fixed.Show(n); s != "-4194304" {
			t.Errorf("Show(%d) = %q", n, s)
		}
	}
}

// mustShow holds Show against the chapter, and reads what it told again.
func mustShow(t *testing.T, n int) {
	t.Helper()
	s := fixed.Show(n)
	if s != shown(n) {
		t.Errorf("Show(%d) = %q, want %q", n, s, shown(n))
	}
	if m, e := fixed.Read(s); m != fixed.Clamp(n) || e != api.OK {
		t.Errorf("Read(%q) = %d %d, want %d", s, m, e, fixed.Clamp(n))
	}
}

// 2.2 and 2.3: every rest, below 0 and above, at all sizes; and what is shown is read again.
func TestShowEach(t *testing.T) {
	for n := -1100; n <= 1100; n++ {
		mustShow(t, n)
		mustShow(t, api.Max+n)
		mustShow(t, -api.Max+n)
		mustShow(t, 2560*100+n)
	}
	for _, n := range edges() {
		mustShow(t, n)
	}
	next := chance()
	for range 20000 {
		mustShow(t, anyNumber(next))
	}
}

func TestReadExamples(t *testing.T) {
	for want, s := range texts() {
		if n, e := fixed.Read(s); n != want || e != api.OK {
			t.Errorf("Read(%q) = %d %d, want %d", s, n, e, want)
		}
	}
}

func TestReadWrong(t *testing.T) {
	for _, s := range []string{
		"", "-", ".", "-.", "--1", "- 1", // no number
		"-0", "-0.0", "-00", "0.0", "-0.00000000", // a - ahead of 0
		"00", "01", "-01", "007", "00.5", "-00.5", "01.5", "0000000000000001", // noughts ahead
		"2.50", "1.0", "0.50000000", "0.500000000", "1.003906250", "-2.50", "0.039062500", // noughts behind
		".5", "-.5", "1.", "-1.", "0.", "1..5", "1.5.", "1.5.5", "..", // points
		"0.1", "0.3", "0.00390624", "0.00390626", "0.99609374", "0.99609376", "0.001953125", "1.001953125", "0.005", "0.000000001", // not 256ths
		"4194305", "-4194305", "4194304.5", "-4194304.5", "4194304.00390625", "-4194304.00390625", "4194304.0", "9999999", "41943040", // beyond Max
		"36028797018963969", "72057594037927936", "72057594037927937", "9223372036854775807", "-9223372036854775808", "9223372036854775808", "18446744073709551616", "18446744073709551617", // that run over, as 256ths or as they are
		"+1", "+0", "+0.5", "1+", "-+1", "+-1", "1-", "1.-5", "1.+5", "0.-0", "-1.-5", // signs
		" 1", "1 ", "1\n", "\t1", "1\x00", "\x001", "1 .5", "1,5", "1_0", "1e2", "1E2", "0x10", "0b1", "0o7", "inf", "NaN", "-Inf", "1/2", "a", "1a", "1.5a", "1.a5", "−1", "١", "１", "½", "\xff", "1\xff", "1;", "1:", "/1",
		strings.Repeat("0", 100), strings.Repeat("1", 100), "1." + strings.Repeat("0", 100), "0.5" + strings.Repeat("0", 100), "-" + strings.Repeat("-", 100), strings.Repeat("9", 100000), "0.00390625" + strings.Repeat("0", 1<<20),
		"-4194303.003906250", "-4194303.0039062500", "-4194303.00390625 ", "-04194303.00390625",
	} {
		if n, e := fixed.Read(s); n != 0 || e != api.ErrFormat {
			t.Errorf("Read(%.40q) = %d %d", s, n, e)
		}
	}
}

func mustRead(t *testing.T, s string) {
	t.Helper()
	want, no := read(s)
	n, e := fixed.Read(s)
	if n != want || e != no {
		t.Fatalf("Read(%q) = %d %d, want %d %d", s, n, e, want, no)
	}
	if e == api.OK && fixed.Show(n) != s {
		t.Fatalf("Read(%q) = %d, whose Show is %q", s, n, fixed.Show(n))
	}
}

// Each short text is read if it is the Show of a number, and is refused if it is not.
func TestReadEachShortText(t *testing.T) {
	texts := []string{""}
	for range 4 {
		var longer []string
		for _, s := range texts {
			mustRead(t, s)
			for _, c := range "-+.0123456789 ex/:" {
				longer = append(longer, s+string(c))
			}
		}
		texts = longer
	}
	for _, s := range texts {
		mustRead(t, s)
	}
}

// Each text that is a byte away from the Show of a number is read alone if it is the Show of another.
func TestReadBesideWhatIsShown(t *testing.T) {
	for _, n := range []int{0, 1, -1, 128, -640, 255, 2561, -25600, api.Max, -api.Max, api.Max - 1, 1 - api.Max, api.Max - 8, 256, 12345678} {
		s := fixed.Show(n)
		for i := range len(s) + 1 {
			for c := range 256 {
				mustRead(t, s[:i]+string([]byte{byte(c)})+s[i:])
				if i < len(s) {
					mustRead(t, s[:i]+string([]byte{byte(c)})+s[i+1:])
				}
			}
			if i < len(s) {
				mustRead(t, s[:i]+s[i+1:])
			}
		}
	}
}

// All eight digits behind the point: one in 390625 of these is a 256th.
func TestReadDigits(t *testing.T) {
	next := chance()
	for range 20000 {
		b := []byte("0.")
		for range 1 + next(9) {
			b = append(b, '0'+byte(next(10)))
		}
		mustRead(t, string(b))
		mustRead(t, "-"+string(b))
	}
}

// 2.3: what is not below another number is not below it behind any of these.
func TestOrderStays(t *testing.T) {
	l := edges()
	for i := 1; i < len(l); i++ {
		low, high := l[i-1], l[i]
		if fixed.Clamp(low) > fixed.Clamp(high) {
			t.Error("Clamp", low, high)
		}
		for _, x := range l {
			if fixed.Add(low, x) > fixed.Add(high, x) || fixed.Add(x, low, x) > fixed.Add(x, high, x) {
				t.Error("Add", low, high, x)
			}
			if x >= 0 && (fixed.Mul(low, x) > fixed.Mul(high, x) || fixed.Mul(x, low) > fixed.Mul(x, high)) {
				t.Error("Mul", low, high, x)
			}
		}
	}
}

// P1, R1, R5: at any arguments all calls end, answer a fixed number, and the same again.
func TestAnswersAreFixedNumbers(t *testing.T) {
	may := func(n int) bool { return n >= -api.Max && n <= api.Max }
	for _, a := range edges() {
		if !may(fixed.Clamp(a)) || fixed.Show(a) != fixed.Show(a) || fixed.Show(a) != fixed.Show(fixed.Clamp(a)) {
			t.Error(a)
		}
		for _, b := range edges() {
			q, e := fixed.Div(a, b)
			if !may(fixed.Add(a, b)) || !may(fixed.Mul(a, b)) || !may(q) || (e == api.OK) != (b != 0) {
				t.Error(a, b)
			}
			p, f := fixed.Div(fixed.Clamp(a), fixed.Clamp(b)) // whatever is handed in counts as its Clamp
			if p != q || e != f || fixed.Mul(a, b) != fixed.Mul(fixed.Clamp(a), fixed.Clamp(b)) || fixed.Add(a, b) != fixed.Add(fixed.Clamp(a), fixed.Clamp(b)) {
				t.Error(a, b, "as they count")
			}
		}
	}
}

// R4

func TestListIsLeftAlone(t *testing.T) {
	l := []int{1, math.MaxInt, -3, 4, 5}
	if n := fixed.Add(l[:3]...); n != api.Max-3 {
		t.Error(n, "what lies behind a list's length was read, or an item was not")
	}
	if !slices.Equal(l, []int{1, math.MaxInt, -3, 4, 5}) {
		t.Error(l)
	}
}

func TestNoTextIsShared(t *testing.T) {
	for _, n := range []int{0, 256, 2560, 128, -1} {
		if a, b := fixed.Show(n), fixed.Show(n); unsafe.StringData(a) == unsafe.StringData(b) {
			t.Errorf("two answers %q share memory", a)
		}
	}
}

// The calls have the chapter's signatures: any number of numbers is added by one call.
var (
	_ func(int) int                   = fixed.Clamp
	_ func(...int) int                = fixed.Add
	_ func(int, int) int              = fixed.Mul
	_ func(int, int) (int, api.Errno) = fixed.Div
	_ func(int) string                = fixed.Show
	_ func(string) (int, api.Errno)   = fixed.Read
)
