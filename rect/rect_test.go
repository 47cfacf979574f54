package rect_test

import (
	"math"
	"slices"
	"testing"

	"hedgerow/api"
	"hedgerow/rect"
)

const far = api.Max

// edges: numbers at 0 and beside it, at and beyond -Max and Max, and at both ends of their kind, rising.
func edges() []int {
	return []int{math.MinInt, math.MinInt + 1, -far - 1, -far, 1 - far, -1, 0, 1, far - 1, far, far + 1, math.MaxInt - 1, math.MaxInt}
}

// rectsOf: all rectangles whose numbers are of a list, those that have no point too.
func rectsOf(l []int) []api.Rect {
	var all []api.Rect
	for _, x0 := range l {
		for _, y0 := range l {
			for _, x1 := range l {
				for _, y1 := range l {
					all = append(all, api.Rect{X0: x0, Y0: y0, X1: x1, Y1: y1})
				}
			}
		}
	}
	return all
}

// row: the whole numbers from low to high, around a middle.
func row(middle, low, high int) []int {
	var l []int
	for n := low; n <= high; n++ {
		l = append(l, middle+n)
	}
	return l
}

// counts is a number that is handed in, as it counts.
func counts(n int) int {
	if n > far {
		return far
	}
	if n < -far {
		return -far
	}
	return n
}

// points: what the chapter says of a rectangle's points, of small rectangles alone.
func points(r api.Rect) [][2]int {
	var l [][2]int
	for x := counts(r.X0); x < counts(r.X1); x++ {
		for y := counts(r.Y0); y < counts(r.Y1); y++ {
			l = append(l, [2]int{x, y})
		}
	}
	return l
}

func size(n int) int {
	if n < 0 {
		return -n
	}
	return n
}

// lieApart is what the chapter says of points that lie apart.
func lieApart(x, y, u, v int) int {
	dx, dy := size(counts(x)-counts(u)), size(counts(y)-counts(v))
	if dx > dy {
		return dx
	}
	return dy
}

// hasPoint is what the chapter says of a rectangle's points, of each rectangle.
func hasPoint(r api.Rect, x, y int) bool {
	x, y = counts(x), counts(y)
	return counts(r.X0) <= x && x < counts(r.X1) && counts(r.Y0) <= y && y < counts(r.Y1)
}

// isNone tells whether a rectangle has no point.
func isNone(r api.Rect) bool {
	return counts(r.X0) >= counts(r.X1) || counts(r.Y0) >= counts(r.Y1)
}

// nearestOf is the number of low <= m < high that is the nearest to n.
func nearestOf(n, low, high int) int {
	n, low, high = counts(n), counts(low), counts(high)
	if n < low {
		return low
	}
	if n >= high {
		return high - 1
	}
	return n
}

// gapOf is how far a point lies from that of a rectangle's which is the nearest, of each rectangle.
func gapOf(r api.Rect, x, y int) int {
	if isNone(r) {
		return -1
	}
	return lieApart(x, y, nearestOf(x, r.X0, r.X1), nearestOf(y, r.Y0, r.Y1))
}

// chance is the same row of numbers each time.
func chance() func(n int) int {
	seed := uint64(1)
	return func(n int) int {
		seed = seed*6364136223846793005 + 1442695040888963407
		return int((seed >> 33) % uint64(n))
	}
}

// anyNumber is a number of any size.
func anyNumber(next func(int) int) int {
	n := (next(1<<31) << 33) ^ (next(1<<31) << 8) ^ next(1<<8)
	return n >> next(64)
}

func anyRect(next func(int) int) api.Rect {
	return api.Rect{X0: anyNumber(next), Y0: anyNumber(next), X1: anyNumber(next), Y1: anyNumber(next)}
}

// 3.1

func TestGapHasNearExamples(t *testing.T) {
	ten := api.Rect{X1: 10, Y1: 10}
	left := api.Rect{X0: -far, Y0: -far, X1: 1 - far, Y1: 1 - far} // one point
	wide := api.Rect{X0: math.MinInt, Y0: math.MinInt, X1: math.MaxInt, Y1: math.MaxInt}
	for _, c := range []struct {
		r    api.Rect
		x, y int
		gap  int
	}{
		{ten, 9, 9, 0}, {ten, 0, 0, 0}, {ten, 0, 9, 0}, {ten, 9, 0, 0}, {ten, 4, 5, 0}, // on each border
		{ten, 10, 0, 1}, {ten, 0, 10, 1}, {ten, -1, 0, 1}, {ten, 0, -1, 1}, {ten, 10, 10, 1}, {ten, -1, -1, 1}, {ten, 10, -1, 1}, {ten, -1, 10, 1}, // and one beyond it
		{ten, 12, 5, 3}, {ten, 5, 12, 3}, {ten, -2, 20, 11}, {ten, 20, -2, 11}, {ten, -7, -3, 7}, {ten, -3, -7, 7}, {ten, 13, 14, 5},
		{ten, far, 0, far - 9}, {ten, 0, far + 1, far - 9}, {ten, math.MaxInt, math.MaxInt, far - 9}, {ten, -far, 3, far}, {ten, 3, -far - 1, far}, {ten, math.MinInt, 0, far},
		{api.Rect{X0: -9, Y0: -8, X1: -5, Y1: -4}, -6, -5, 0}, {api.Rect{X0: -9, Y0: -8, X1: -5, Y1: -4}, -5, -5, 1}, {api.Rect{X0: -9, Y0: -8, X1: -5, Y1: -4}, 0, 0, 6},
		{left, -far, -far, 0}, {left, math.MinInt, -far - 1, 0}, {left, 1 - far, -far, 1}, {left, far, far, 2 * far}, {left, -far, math.MaxInt, 2 * far},
		{wide, 0, 0, 0}, {wide, far - 1, far - 1, 0}, {wide, -far, math.MinInt, 0}, {wide, far, 0, 1}, {wide, 0, math.MaxInt, 1}, // Max itself lies in no rectangle
		{api.Rect{X0: far - 1, X1: far + 1, Y1: 1}, far - 1, 0, 0}, {api.Rect{X0: far - 1, X1: far + 1, Y1: 1}, far, 0, 1},
		{api.Rect{}, 0, 0, -1}, {api.Rect{X0: 5, X1: 5, Y1: 9}, 5, 5, -1}, {api.Rect{X1: 9, Y0: 5, Y1: 5}, 5, 5, -1}, {api.Rect{X0: 3, Y0: 3, X1: 3, Y1: 3}, 3, 3, -1}, // no point
		{api.Rect{X0: 6, X1: 5, Y1: 9}, 5, 5, -1}, {api.Rect{X1: 9, Y0: 6, Y1: 5}, 5, 5, -1}, {api.Rect{X0: 9, Y0: 9, X1: 1, Y1: 1}, 5, 5, -1}, // X0 above X1, Y0 above Y1
		{api.Rect{X0: far, X1: far + 5, Y1: 9}, far, 5, -1}, {api.Rect{X1: 9, Y0: -far - 5, Y1: -far}, 5, -far, -1}, {api.Rect{X0: far + 1, Y0: far + 1, X1: math.MaxInt, Y1: math.MaxInt}, far, far, -1}, // none as they count
		{api.Rect{X0: math.MaxInt, Y0: math.MaxInt, X1: math.MinInt, Y1: math.MinInt}, 0, 0, -1},
	} {
		if g := rect.Gap(c.r, c.x, c.y); g != c.gap {
			t.Errorf("Gap(%d, %d, %d) = %d, want %d", c.r, c.x, c.y, g, c.gap)
		}
		if rect.Has(c.r, c.x, c.y) != (c.gap == 0) {
			t.Errorf("Has(%d, %d, %d) = %t", c.r, c.x, c.y, c.gap != 0)
		}
		for _, d := range []int{c.gap - 1, c.gap, c.gap + 1, -1, 0, math.MinInt, math.MaxInt} {
			if rect.Near(c.r, c.x, c.y, d) != (c.gap >= 0 && d >= c.gap) {
				t.Errorf("Near(%d, %d, %d, %d)", c.r, c.x, c.y, d)
			}
		}
	}
}

// The d of Near counts as it is: beyond Max there are points that are near by it, and others that are not.
func TestNearBeyondMax(t *testing.T) {
	r := api.Rect{X0: -far, Y0: -far, X1: 1 - far, Y1: 1 - far}
	for _, c := range []struct {
		x, d int
		near bool
	}{
		{far, far, false}, {far, far + 1, false}, {far, 2*far - 1, false}, {far, 2 * far, true}, {far, 2*far + 1, true}, {far, math.MaxInt, true},
		{math.MaxInt, 2*far - 1, false}, {math.MaxInt, 2 * far, true}, {1, far, false}, {1, far + 1, true}, {0, far, true}, {0, far - 1, false},
		{-far, 0, true}, {-far, -1, false}, {-far, -far, false}, {-far, -far - 1, false}, {-far, math.MinInt, false},
	} {
		if rect.Near(r, c.x, -far, c.d) != c.near || rect.Near(r, -far, c.x, c.d) != c.near {
			t.Errorf("%d by %d: near is not %t", c.x, c.d, c.near)
		}
	}
}

// mustGap holds Gap and Has against what the chapter says, and Near of each distance about there.
func mustGap(t *testing.T, r api.Rect, x, y, want int) {
	t.Helper()
	if g := rect.Gap(r, x, y); g != want {
		t.Fatalf("Gap(%d, %d, %d) = %d, want %d", r, x, y, g, want)
	}
	if rect.Has(r, x, y) != (want == 0) {
		t.Fatalf("Has(%d, %d, %d) = %t", r, x, y, want != 0)
	}
	for _, d := range []int{want - 1, want, want + 1} {
		if rect.Near(r, x, y, d) != (want >= 0 && want <= d) {
			t.Fatalf("Near(%d, %d, %d, %d)", r, x, y, d)
		}
	}
}

// Each small rectangle, those that have no point too, about 0 and at both ends, is gone through point by point.
func TestGapOfEachPoint(t *testing.T) {
	for _, middle := range []int{0, far, -far} {
		for _, r := range rectsOf(row(middle, -2, 2)) {
			own := points(r)
			for _, x := range row(middle, -4, 4) {
				for _, y := range row(middle, -4, 4) {
					want := -1
					for _, p := range own {
						if d := lieApart(x, y, p[0], p[1]); want < 0 || d < want {
							want = d
						}
					}
					mustGap(t, r, x, y, want)
				}
			}
		}
	}
}

func TestGapAtEdges(t *testing.T) {
	for _, r := range rectsOf([]int{math.MinInt, -far - 1, -far, -7, 0, far - 1, far, math.MaxInt}) {
		for _, x := range edges() {
			for _, y := range edges() {
				mustGap(t, r, x, y, gapOf(r, x, y))
				if rect.Has(r, x, y) != hasPoint(r, x, y) {
					t.Fatalf("Has(%d, %d, %d)", r, x, y)
				}
			}
		}
	}
}

func TestGapMany(t *testing.T) {
	next := chance()
	for range 20000 {
		r, x, y := anyRect(next), anyNumber(next), anyNumber(next)
		mustGap(t, r, x, y, gapOf(r, x, y))
		d := anyNumber(next)
		if g := gapOf(r, x, y); rect.Near(r, x, y, d) != (g >= 0 && g <= d) {
			t.Fatalf("Near(%d, %d, %d, %d)", r, x, y, d)
		}
	}
}

func TestFar(t *testing.T) {
	for _, c := range [][5]int{
		{1, 2, 4, 0, 3}, {1, 2, 2, 9, 7}, {4, 0, 1, 2, 3}, {0, 0, 0, 0, 0}, {5, 5, 5, 5, 0}, {-3, 0, 4, 0, 7}, {0, 4, 0, -3, 7}, {-9, -9, -2, -5, 7}, {3, 3, 0, 0, 3},
		{-far, 0, far, 0, 2 * far}, {0, far, 0, -far, 2 * far}, {math.MinInt, 0, math.MaxInt, 0, 2 * far}, {0, math.MaxInt, 0, math.MinInt, 2 * far},
		{far + 1, 0, far, 0, 0}, {math.MaxInt, math.MinInt, far, -far, 0}, {far + 9, 0, far - 1, 0, 1}, {0, -far - 9, 0, 1 - far, 1},
	} {
		if d := rect.Far(c[0], c[1], c[2], c[3]); d != c[4] {
			t.Errorf("Far(%d) = %d, want %d", c[:4], d, c[4])
		}
	}
	for _, x := range edges() {
		for _, y := range edges() {
			for _, u := range edges() {
				for _, v := range edges() {
					if d := rect.Far(x, y, u, v); d != lieApart(x, y, u, v) || d != rect.Far(u, v, x, y) || d != rect.Far(y, x, v, u) {
						t.Fatalf("Far(%d, %d, %d, %d) = %d, want %d", x, y, u, v, d, lieApart(x, y, u, v))
					}
				}
			}
		}
	}
}

// 3.2

func TestCutExamples(t *testing.T) {
	none, ten := api.Rect{}, api.Rect{X1: 10, Y1: 10}
	most := api.Rect{X0: -far, Y0: -far, X1: far, Y1: far}
	beyond := api.Rect{X0: math.MinInt, Y0: -far - 1, X1: far + 1, Y1: math.MaxInt}
	for _, c := range []struct {
		l    []api.Rect
		want api.Rect
	}{
		{nil, none}, {[]api.Rect{}, none},
		{[]api.Rect{ten}, ten}, {[]api.Rect{{X0: -3, Y0: -4, X1: -1, Y1: -2}}, api.Rect{X0: -3, Y0: -4, X1: -1, Y1: -2}}, {[]api.Rect{{X0: 3, Y0: 4, X1: 4, Y1: 5}}, api.Rect{X0: 3, Y0: 4, X1: 4, Y1: 5}}, // one
		{[]api.Rect{none}, none}, {[]api.Rect{{X0: 5, X1: 5, Y1: 9}}, none}, {[]api.Rect{{X1: 9, Y0: 5, Y1: 5}}, none}, {[]api.Rect{{X0: 6, X1: 5, Y1: 9}}, none}, {[]api.Rect{{X1: 9, Y0: 6, Y1: 5}}, none}, {[]api.Rect{{X0: 9, Y0: 9}}, none}, // one that has no point
		{[]api.Rect{beyond}, most}, {[]api.Rect{beyond, beyond}, most}, {[]api.Rect{beyond, ten}, ten}, {[]api.Rect{ten, beyond}, ten}, {[]api.Rect{most, beyond, most}, most}, // beyond Max
		{[]api.Rect{{X0: far, X1: far + 9, Y1: 9}}, none}, {[]api.Rect{{X1: 9, Y0: -far - 9, Y1: -far}}, none}, {[]api.Rect{beyond, {X0: far - 1, X1: far + 9, Y0: far - 2, Y1: math.MaxInt}}, api.Rect{X0: far - 1, Y0: far - 2, X1: far, Y1: far}},
		{[]api.Rect{{X0: far + 1, Y0: 0, X1: far + 9, Y1: 9}, {X0: far + 2, Y0: 0, X1: far + 5, Y1: 9}}, none},
		{[]api.Rect{ten, ten}, ten}, {[]api.Rect{ten, {X0: 5, Y0: 5, X1: 20, Y1: 20}}, api.Rect{X0: 5, Y0: 5, X1: 10, Y1: 10}}, {[]api.Rect{{X0: 5, Y0: 5, X1: 20, Y1: 20}, ten}, api.Rect{X0: 5, Y0: 5, X1: 10, Y1: 10}},
		{[]api.Rect{ten, {X0: 2, Y0: 3, X1: 4, Y1: 6}}, api.Rect{X0: 2, Y0: 3, X1: 4, Y1: 6}}, {[]api.Rect{ten, {X0: -5, Y0: 3, X1: 50, Y1: 4}}, api.Rect{Y0: 3, X1: 10, Y1: 4}},
		{[]api.Rect{ten, {X0: 9, Y0: 9, X1: 12, Y1: 12}}, api.Rect{X0: 9, Y0: 9, X1: 10, Y1: 10}}, {[]api.Rect{{X0: -5, Y0: -5, X1: 1, Y1: 1}, ten, {X0: -1, Y0: -1, X1: 9, Y1: 9}}, api.Rect{X1: 1, Y1: 1}}, // a point in common
		{[]api.Rect{ten, {X0: 9, Y0: -3, X1: 12, Y1: 12}}, api.Rect{X0: 9, X1: 10, Y1: 10}}, {[]api.Rect{ten, {X0: -3, Y0: 9, X1: 12, Y1: 12}, {X0: 1, X1: 8, Y1: 50}}, api.Rect{X0: 1, Y0: 9, X1: 8, Y1: 10}}, // a line
		{[]api.Rect{ten, {X0: 10, X1: 12, Y1: 5}}, none}, {[]api.Rect{ten, {Y0: 10, X1: 5, Y1: 12}}, none}, {[]api.Rect{ten, {X0: 10, Y0: 10, X1: 12, Y1: 12}}, none}, {[]api.Rect{ten, {X0: -5, Y0: 2, X1: 0, Y1: 3}}, none}, {[]api.Rect{ten, {X0: 30, Y0: 40, X1: 35, Y1: 45}}, none}, // nothing
		{[]api.Rect{ten, none}, none}, {[]api.Rect{none, ten}, none}, {[]api.Rect{ten, {X0: 8, Y0: 8, X1: 2, Y1: 2}, ten}, none}, {[]api.Rect{{X0: -5, Y0: -5, X1: 5, Y1: 5}, none, {X0: -5, Y0: -5, X1: 5, Y1: 5}}, none}, // one of many has no point
		{[]api.Rect{{X1: 6, Y1: 6}, {X0: 4, Y0: 4, X1: 10, Y1: 10}, {X0: 2, Y0: 2, X1: 5, Y1: 9}}, api.Rect{X0: 4, Y0: 4, X1: 5, Y1: 6}},
		{[]api.Rect{{X1: 6, Y1: 6}, {X0: 4, X1: 10, Y1: 10}, {X1: 4, Y1: 9}}, none}, // each two have something in common with one of them
	} {
		if got := rect.Cut(c.l...); got != c.want {
			t.Errorf("Cut(%d) = %d, want %d", c.l, got, c.want)
		}
	}
}

// mustCut holds Cut against the points that all rectangles have: a rectangle that has one is told by its least and greatest ones.
func mustCut(t *testing.T, l []api.Rect, about []int) {
	t.Helper()
	var want api.Rect
	for _, x := range about {
		for _, y := range about {
			if len(l) == 0 || slices.ContainsFunc(l, func(r api.Rect) bool { return !hasPoint(r, x, y) }) {
				continue
			}
			x, y := counts(x), counts(y)
			if want == (api.Rect{}) {
				want = api.Rect{X0: x, Y0: y, X1: x + 1, Y1: y + 1}
			}
			want = api.Rect{X0: min(want.X0, x), Y0: min(want.Y0, y), X1: max(want.X1, x+1), Y1: max(want.Y1, y+1)}
		}
	}
	if got := rect.Cut(l...); got != want {
		t.Fatalf("Cut(%d) = %d, want %d", l, got, want)
	}
}

func TestCutOfEachPoint(t *testing.T) {
	next := chance()
	for _, middle := range []int{0, far, -far, 7} {
		all := rectsOf(row(middle, -2, 2))
		for _, r := range all {
			mustCut(t, []api.Rect{r}, row(middle, -3, 3))
		}
		for range 20000 {
			l := make([]api.Rect, next(5))
			for i := range l {
				l[i] = all[next(len(all))]
				if next(3) > 0 && l[i].X0 > l[i].X1 { // so that more of them have points
					l[i].X0, l[i].X1 = l[i].X1, l[i].X0
				}
				if next(3) > 0 && l[i].Y0 > l[i].Y1 {
					l[i].Y0, l[i].Y1 = l[i].Y1, l[i].Y0
				}
			}
			mustCut(t, l, row(middle, -3, 3))
		}
	}
}

// What is cut at the edges has just the points that both have, is told in numbers that may be, and is Rect{} if it has none.
func TestCutAtEdges(t *testing.T) {
	l := edges()
	next := chance()
	for range 5000 {
		a, b := anyRect(next), anyRect(next)
		for _, p := range []*int{&a.X0, &a.Y0, &a.X1, &a.Y1, &b.X0, &b.Y0, &b.X1, &b.Y1} {
			if next(4) > 0 {
				*p = l[next(len(l))]
			}
		}
		c := rect.Cut(a, b)
		if isNone(c) != (c == api.Rect{}) || c != (api.Rect{X0: counts(c.X0), Y0: counts(c.Y0), X1: counts(c.X1), Y1: counts(c.Y1)}) {
			t.Fatalf("Cut(%d, %d) = %d", a, b, c)
		}
		if rect.Cut(b, a) != c || rect.Cut(a, b, a, b) != c || rect.Cut(c) != c {
			t.Fatalf("Cut(%d, %d) = %d, and not in each order", a, b, c)
		}
		for _, x := range l {
			for _, y := range l {
				if hasPoint(c, x, y) != (hasPoint(a, x, y) && hasPoint(b, x, y)) {
					t.Fatalf("Cut(%d, %d) = %d at %d %d", a, b, c, x, y)
				}
			}
		}
	}
}

func TestCutMany(t *testing.T) {
	l := make([]api.Rect, 100000)
	for i := range l {
		l[i] = api.Rect{X0: i, Y0: -i, X1: 200000 - i, Y1: 3 * i}
	}
	if c := rect.Cut(l...); c != (api.Rect{}) {
		t.Error(c)
	}
	if c := rect.Cut(l[1:]...); c != (api.Rect{X0: 99999, Y0: -1, X1: 100001, Y1: 3}) {
		t.Error(c)
	}
}

func TestGrowExamples(t *testing.T) {
	none, ten := api.Rect{}, api.Rect{X1: 10, Y1: 10}
	most := api.Rect{X0: -far, Y0: -far, X1: far, Y1: far}
	for _, c := range []struct {
		r    api.Rect
		d    int
		want api.Rect
	}{
		{ten, 2, api.Rect{X0: -2, Y0: -2, X1: 12, Y1: 12}}, {ten, 0, ten}, {ten, -1, ten}, {ten, -5, ten}, {ten, -far - 1, ten}, {ten, math.MinInt, ten},
		{api.Rect{X0: 3, Y0: -7, X1: 4, Y1: 1}, 5, api.Rect{X0: -2, Y0: -12, X1: 9, Y1: 6}}, {api.Rect{X0: -9, Y0: -8, X1: -7, Y1: -5}, 1, api.Rect{X0: -10, Y0: -9, X1: -6, Y1: -4}},
		{none, 5, none}, {none, 0, none}, {none, -5, none}, {none, math.MaxInt, none}, {api.Rect{X0: 1}, 5, none}, // has no point, though it would have some if it grew
		{api.Rect{X0: 5, X1: 5, Y1: 9}, 3, none}, {api.Rect{X1: 9, Y0: 5, Y1: 5}, 3, none}, {api.Rect{X0: 6, X1: 5, Y1: 9}, 3, none}, {api.Rect{X1: 9, Y0: 6, Y1: 5}, 0, none}, {api.Rect{X0: 9, Y0: 9, X1: 1, Y1: 1}, 100, none},
		{api.Rect{X0: far, X1: far + 9, Y1: 9}, 3, none}, {api.Rect{X1: 9, Y0: math.MinInt, Y1: -far}, 3, none}, // nor as it counts
		{ten, far - 1, api.Rect{X0: 1 - far, Y0: 1 - far, X1: far, Y1: far}}, {ten, far, most}, {ten, far + 1, most}, {ten, math.MaxInt, most}, {ten, far - 10, api.Rect{X0: 10 - far, Y0: 10 - far, X1: far, Y1: far}}, {ten, far - 11, api.Rect{X0: 11 - far, Y0: 11 - far, X1: far - 1, Y1: far - 1}},
		{most, 1, most}, {most, 0, most}, {most, math.MaxInt, most},
		{api.Rect{X0: 2 - far, Y0: 3 - far, X1: far - 3, Y1: far - 1}, 2, api.Rect{X0: -far, Y0: 1 - far, X1: far - 1, Y1: far}}, // each number by itself
		{api.Rect{X0: math.MinInt, Y0: -far - 1, X1: far + 1, Y1: math.MaxInt}, 0, most}, {api.Rect{X0: math.MinInt, Y0: 5, X1: 6, Y1: math.MaxInt}, 7, api.Rect{X0: -far, Y0: -2, X1: 13, Y1: far}},
		{api.Rect{X0: math.MinInt, Y0: -far - 1, X1: -5, Y1: 1}, -3, api.Rect{X0: -far, Y0: -far, X1: -5, Y1: 1}},
		{api.Rect{X0: far - 1, Y0: far - 1, X1: far, Y1: far}, math.MaxInt, api.Rect{X0: -1, Y0: -1, X1: far, Y1: far}}, {api.Rect{X0: -far, Y0: -far, X1: 1 - far, Y1: 2 - far}, 3 * far, api.Rect{X0: -far, Y0: -far, X1: 1, Y1: 2}}, // a d beyond Max counts as Max
	} {
		if got := rect.Grow(c.r, c.d); got != c.want {
			t.Errorf("Grow(%d, %d) = %d, want %d", c.r, c.d, got, c.want)
		}
	}
}

// mustGrow holds Grow against what the chapter says.
func mustGrow(t *testing.T, r api.Rect, d int) {
	t.Helper()
	var want api.Rect
	if !isNone(r) {
		by := counts(d)
		if by < 0 {
			by = 0
		}
		want = api.Rect{X0: counts(counts(r.X0) - by), Y0: counts(counts(r.Y0) - by), X1: counts(counts(r.X1) + by), Y1: counts(counts(r.Y1) + by)}
	}
	if got := rect.Grow(r, d); got != want {
		t.Fatalf("Grow(%d, %d) = %d, want %d", r, d, got, want)
	}
}

func TestGrowMany(t *testing.T) {
	for _, r := range rectsOf([]int{math.MinInt, -far - 1, -far, -7, 0, far - 1, far, math.MaxInt}) {
		for _, d := range append(edges(), 2*far, -2*far, 7, -7) {
			mustGrow(t, r, d)
		}
	}
	next := chance()
	for range 20000 {
		mustGrow(t, anyRect(next), anyNumber(next))
	}
}

// 3.3

// Where nothing was Clamped a point is near a rectangle just where the rectangle that is grown by as much has it.
func TestNearIsHadByWhatIsGrown(t *testing.T) {
	for _, middle := range []int{0, 1000, far - 20, 20 - far} {
		for _, r := range rectsOf(row(middle, -2, 2)) {
			for d := range 5 {
				grown := rect.Grow(r, d)
				for _, x := range row(middle, -7, 7) {
					for _, y := range row(middle, -7, 7) {
						if rect.Near(r, x, y, d) != rect.Has(grown, x, y) {
							t.Fatalf("%d, %d %d, by %d: %t", r, x, y, d, rect.Has(grown, x, y))
						}
					}
				}
			}
		}
	}
}

// Whoever goes from one point to another changes Gap by no more than they lie apart.
func TestGapChangesByNoMoreThanFar(t *testing.T) {
	next := chance()
	l := edges()
	pick := func() int {
		if next(2) == 0 {
			return l[next(len(l))]
		}
		return anyNumber(next)
	}
	for range 50000 {
		r, x, y, u, v := anyRect(next), pick(), pick(), pick(), pick()
		a, b := rect.Gap(r, x, y), rect.Gap(r, u, v)
		if size(a-b) > rect.Far(x, y, u, v) {
			t.Fatalf("%d: Gap of %d %d is %d, of %d %d %d", r, x, y, a, u, v, b)
		}
	}
}

// P1, R1, R5: at any arguments all calls end, answer the same again, and of what is handed in the same as of its Clamp.
func TestWhatIsHandedInCountsAsItsClamp(t *testing.T) {
	l := edges()
	next := chance()
	for range 20000 {
		n := make([]int, 9)
		for i := range n {
			n[i] = l[next(len(l))]
		}
		r := api.Rect{X0: n[0], Y0: n[1], X1: n[2], Y1: n[3]}
		c := api.Rect{X0: counts(n[0]), Y0: counts(n[1]), X1: counts(n[2]), Y1: counts(n[3])}
		for range 2 {
			if rect.Has(r, n[4], n[5]) != rect.Has(c, counts(n[4]), counts(n[5])) || rect.Gap(r, n[4], n[5]) != rect.Gap(c, counts(n[4]), counts(n[5])) ||
				rect.Near(r, n[4], n[5], n[6]) != rect.Near(c, counts(n[4]), counts(n[5]), n[6]) || rect.Far(n[4], n[5], n[6], n[7]) != rect.Far(counts(n[4]), counts(n[5]), counts(n[6]), counts(n[7])) ||
				rect.Grow(r, n[8]) != rect.Grow(c, counts(n[8])) || rect.Cut(r) != rect.Cut(c) || rect.Cut(r, c) != rect.Cut(c) {
				t.Fatal(n)
			}
		}
	}
}

// R4

func TestListIsLeftAlone(t *testing.T) {
	l := []api.Rect{{X0: math.MinInt, X1: 9, Y1: math.MaxInt}, {X1: 8, Y0: -5, Y1: 8}, {X0: 50, Y0: 50, X1: 60, Y1: 60}}
	was := slices.Clone(l)
	if c := rect.Cut(l[:2]...); c != (api.Rect{X1: 8, Y1: 8}) {
		t.Error(c, "what lies behind a list's length was read, or a rectangle was not")
	}
	if !slices.Equal(l, was) {
		t.Error(l)
	}
}

// The calls have the chapter's signatures: any number of rectangles is cut by one call.
var (
	_ func(api.Rect, int, int) bool      = rect.Has
	_ func(api.Rect, int, int) int       = rect.Gap
	_ func(api.Rect, int, int, int) bool = rect.Near
	_ func(int, int, int, int) int       = rect.Far
	_ func(...api.Rect) api.Rect         = rect.Cut
	_ func(api.Rect, int) api.Rect       = rect.Grow
)
