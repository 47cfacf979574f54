package zones_test

import (
	"math"
	"slices"
	"testing"

	"hedgerow/api"
	"hedgerow/zones"
)

// good is a world that may be, whose numbers lie in the midst of theirs.
func good() api.Config {
	return api.Config{Cols: 2, Rows: 3, Side: 1000, Radius: 10, Speed: 50, Ids: 5, Queue: 7}
}

// mapOf makes the map of a world that may be.
func mapOf(t *testing.T, c api.Config) *zones.Map {
	t.Helper()
	m, e := zones.New(c)
	if e != api.OK || m == nil {
		t.Fatalf("New(%+v): %v, %d", c, m, e)
	}
	return m
}

// sides: the least and the greatest Side, and some between, odd ones too.
func sides() []int { return []int{256, 257, 999, 1 << 20} }

// worlds: of 1 to 4 columns and rows, with a Radius and a Speed at 0, at Side and between.
func worlds() []api.Config {
	var l []api.Config
	for cols := 1; cols <= 4; cols++ {
		for rows := 1; rows <= 4; rows++ {
			for _, side := range sides() {
				for _, reach := range []int{0, 1, 10, side/2 + 1, side - 1, side} {
					l = append(l, api.Config{Cols: cols, Rows: rows, Side: side, Radius: reach, Speed: reach, Ids: 1, Queue: 1})
				}
			}
		}
	}
	return l
}

// zone is what the chapter says of one: its column, its row, and from where to where its points go.
type zone struct{ k, i, j, x0, y0, x1, y1 int }

// zonesOf: what the chapter says of all zones of a world, by their numbers.
func zonesOf(c api.Config) []zone {
	var l []zone
	for j := 0; j < c.Rows; j++ {
		for i := 0; i < c.Cols; i++ {
			l = append(l, zone{len(l), i, j, i * c.Side, j * c.Side, (i + 1) * c.Side, (j + 1) * c.Side})
		}
	}
	return l
}

func (z zone) has(x, y int) bool { return z.x0 <= x && x < z.x1 && z.y0 <= y && y < z.y1 }

// outside is how far n lies from the nearest of low to high - 1.
func outside(n, low, high int) int {
	if n < low {
		return low - n
	}
	if n >= high {
		return n - high + 1
	}
	return 0
}

// reached tells whether a point, not too far off to be reckoned with, lies at most d apart from a zone.
func (z zone) reached(x, y, d int) bool {
	return outside(x, z.x0, z.x1) <= d && outside(y, z.y0, z.y1) <= d
}

func (z zone) beside(o zone) bool {
	return z.k != o.k && z.i-o.i <= 1 && o.i-z.i <= 1 && z.j-o.j <= 1 && o.j-z.j <= 1
}

// owner is the number of the zone that has a point; -1, if none has it.
func owner(l []zone, x, y int) int {
	for _, z := range l {
		if z.has(x, y) {
			return z.k
		}
	}
	return -1
}

// besideOf: the zones beside one, rising.
func besideOf(l []zone, k int) []int {
	var out []int
	for _, z := range l {
		if z.k != k && k >= 0 && k < len(l) && z.beside(l[k]) {
			out = append(out, z.k)
		}
	}
	return out
}

// nearOf: the zones that a point is near to, rising; each zone of the world is asked.
func nearOf(l []zone, x, y, d int) []int {
	var out []int
	own := owner(l, x, y)
	for _, z := range l {
		if own >= 0 && z.k != own && z.reached(x, y, d) {
			out = append(out, z.k)
		}
	}
	return out
}

// nearest is that of 0 to end - 1 which is the nearest to n.
func nearest(n, end int) int {
	if n < 0 {
		return 0
	}
	if n > end-1 {
		return end - 1
	}
	return n
}

// marks: the numbers about each border of a row of zones, and about those that lie just Radius apart from one; and some far beyond.
func marks(count, side, radius int) []int {
	l := []int{math.MinInt, math.MinInt + 1, -api.Max - 1, -api.Max, api.Max, api.Max + 1, math.MaxInt - 1, math.MaxInt}
	for i := 0; i <= count; i++ {
		for _, off := range []int{-radius, 0, radius, side / 2} {
			for by := -1; by <= 1; by++ {
				l = append(l, i*side+off+by)
			}
		}
	}
	slices.Sort(l)
	return slices.Compact(l)
}

// chance is the same row of numbers each time.
func chance() func(n int) int {
	seed := uint64(1)
	return func(n int) int {
		seed = seed*6364136223846793005 + 1442695040888963407
		return int((seed >> 33) % uint64(n))
	}
}

// 4.1

// mustCheck holds Check and New against each other and against what they must answer.
func mustCheck(t *testing.T, c api.Config, want api.Errno) {
	t.Helper()
	if e := zones.Check(c); e != want {
		t.Errorf("Check(%+v) = %d, want %d", c, e, want)
	}
	m, e := zones.New(c)
	if e != want || (m == nil) != (want != api.OK) {
		t.Errorf("New(%+v) = %v, %d, want %d", c, m, e, want)
	}
	if m != nil && m.Config != c {
		t.Errorf("New(%+v) has %+v", c, m.Config)
	}
}

// Each number by itself: at its least and its greatest, one beyond both, and far beyond, while all others may be.
func TestCheckEachNumber(t *testing.T) {
	for _, f := range []struct {
		name        string
		number      func(c *api.Config) *int
		least, most int
	}{
		{"Cols", func(c *api.Config) *int { return &c.Cols }, 1, 4},
		{"Rows", func(c *api.Config) *int { return &c.Rows }, 1, 4},
		{"Side", func(c *api.Config) *int { return &c.Side }, 256, 1 << 20},
		{"Radius", func(c *api.Config) *int { return &c.Radius }, 0, 1000},
		{"Speed", func(c *api.Config) *int { return &c.Speed }, 0, 1000},
		{"Ids", func(c *api.Config) *int { return &c.Ids }, 1, 16},
		{"Queue", func(c *api.Config) *int { return &c.Queue }, 1, 64},
	} {
		t.Run(f.name, func(t *testing.T) {
			for _, n := range []int{math.MinInt, math.MinInt + 1, -1 << 32, -api.Max, -1, 0, 1, f.least - 1, f.least, f.least + 1, (f.least + f.most) / 2, f.most - 1, f.most, f.most + 1, api.Max, 1 << 32, 1<<32 + 1, math.MaxInt - 1, math.MaxInt} {
				c := good()
				*f.number(&c) = n
				want := api.ErrArg
				if n >= f.least && n <= f.most {
					want = api.OK
				}
				mustCheck(t, c, want)
			}
		})
	}
}

func TestCheckExamples(t *testing.T) {
	for _, c := range []struct {
		c    api.Config
		want api.Errno
	}{
		{good(), api.OK},
		{api.Config{Cols: 1, Rows: 1, Side: 256, Radius: 0, Speed: 0, Ids: 1, Queue: 1}, api.OK}, // all at their least
		{api.Config{Cols: 4, Rows: 4, Side: 1 << 20, Radius: 1 << 20, Speed: 1 << 20, Ids: 16, Queue: 64}, api.OK},
		{api.Config{Cols: 4, Rows: 1, Side: 256, Radius: 256, Speed: 0, Ids: 16, Queue: 1}, api.OK},
		{api.Config{Cols: 1, Rows: 4, Side: 256, Radius: 0, Speed: 256, Ids: 1, Queue: 64}, api.OK},
		{api.Config{Cols: 1, Rows: 1, Side: 256, Radius: 257, Speed: 0, Ids: 1, Queue: 1}, api.ErrArg}, // Radius and Speed hang on Side, and not on its greatest
		{api.Config{Cols: 1, Rows: 1, Side: 256, Radius: 0, Speed: 257, Ids: 1, Queue: 1}, api.ErrArg},
		{api.Config{Cols: 1, Rows: 1, Side: 1 << 20, Radius: 1<<20 + 1, Speed: 0, Ids: 1, Queue: 1}, api.ErrArg},
		{api.Config{Cols: 1, Rows: 1, Side: 1 << 20, Radius: 0, Speed: 1<<20 + 1, Ids: 1, Queue: 1}, api.ErrArg},
		{api.Config{Cols: 1, Rows: 1, Side: 300, Radius: 300, Speed: 300, Ids: 1, Queue: 1}, api.OK},
		{api.Config{Cols: 1, Rows: 1, Side: 300, Radius: 301, Speed: 301, Ids: 1, Queue: 1}, api.ErrArg},
		{api.Config{}, api.ErrArg},
		{api.Config{Cols: -1, Rows: -1, Side: -1, Radius: -1, Speed: -1, Ids: -1, Queue: -1}, api.ErrArg},
		{api.Config{Cols: 5, Rows: 5, Side: 1<<20 + 1, Radius: 1<<20 + 1, Speed: 1<<20 + 1, Ids: 17, Queue: 65}, api.ErrArg},
		{api.Config{Cols: math.MaxInt, Rows: math.MaxInt, Side: math.MaxInt, Radius: math.MaxInt, Speed: math.MaxInt, Ids: math.MaxInt, Queue: math.MaxInt}, api.ErrArg},
		{api.Config{Cols: math.MinInt, Rows: math.MinInt, Side: math.MinInt, Radius: math.MinInt, Speed: math.MinInt, Ids: math.MinInt, Queue: math.MinInt}, api.ErrArg},
	} {
		mustCheck(t, c.c, c.want)
	}
}

// Ways: the map's config's fields are its own.
func TestConfigIsPromoted(t *testing.T) {
	m := mapOf(t, good())
	if m.Cols != 2 || m.Rows != 3 || m.Side != 1000 || m.Radius != 10 || m.Speed != 50 || m.Ids != 5 || m.Queue != 7 {
		t.Errorf("%+v", m)
	}
}

// 4.2

func TestExamples(t *testing.T) {
	m := mapOf(t, api.Config{Cols: 2, Rows: 2, Side: 256, Radius: 10, Ids: 1, Queue: 1})
	for _, p := range [][3]int{{0, 0, 0}, {255, 255, 0}, {256, 0, 1}, {255, 256, 2}, {0, 256, 2}, {256, 256, 3}, {511, 511, 3}, {512, 0, -1}, {0, 512, -1}, {-1, 0, -1}, {0, -1, -1}, {511, -1, -1}, {512, 512, -1}} {
		if k := m.Of(p[0], p[1]); k != p[2] {
			t.Errorf("Of(%d, %d) = %d, want %d", p[0], p[1], k, p[2])
		}
	}
	for _, c := range []struct {
		x, y int
		near []int
	}{
		{250, 250, []int{1, 2, 3}}, {0, 0, nil}, {246, 0, []int{1}}, {245, 0, nil}, {0, 246, []int{2}}, {0, 245, nil}, {246, 245, []int{1}}, {245, 246, []int{2}}, {246, 246, []int{1, 2, 3}},
		{265, 0, []int{0}}, {266, 0, nil}, {265, 250, []int{0, 2, 3}}, {250, 265, []int{0, 1, 3}}, {265, 265, []int{0, 1, 2}}, {266, 266, nil}, {511, 511, nil},
		{512, 250, nil}, {-1, 250, nil}, {250, -1, nil}, {250, 512, nil}, // not in the world, though it is not far off
	} {
		if l := m.Near(c.x, c.y); !slices.Equal(l, c.near) {
			t.Errorf("Near(%d, %d) = %d, want %d", c.x, c.y, l, c.near)
		}
	}
	for k, want := range [][]int{{1, 2, 3}, {0, 2, 3}, {0, 1, 3}, {0, 1, 2}} {
		if l := m.Beside(k); !slices.Equal(l, want) {
			t.Errorf("Beside(%d) = %d, want %d", k, l, want)
		}
	}
	if x, y := m.In(-5, 600); x != 0 || y != 511 {
		t.Error(x, y)
	}
	if m.Count() != 4 || m.World() != (api.Rect{X1: 512, Y1: 512}) || m.Zone(2) != (api.Rect{Y0: 256, X1: 256, Y1: 512}) {
		t.Error(m.Count(), m.World(), m.Zone(2))
	}
}

// Columns and rows are not each other.
func TestNumbersGoRowByRow(t *testing.T) {
	wide := mapOf(t, api.Config{Cols: 3, Rows: 2, Side: 300, Radius: 1, Ids: 1, Queue: 1})
	high := mapOf(t, api.Config{Cols: 2, Rows: 3, Side: 300, Radius: 1, Ids: 1, Queue: 1})
	if wide.Of(600, 300) != 5 || wide.Of(300, 300) != 4 || wide.Of(0, 600) != -1 || high.Of(300, 600) != 5 || high.Of(300, 300) != 3 || high.Of(600, 0) != -1 {
		t.Error("Of")
	}
	if wide.World() != (api.Rect{X1: 900, Y1: 600}) || high.World() != (api.Rect{X1: 600, Y1: 900}) {
		t.Error(wide.World(), high.World())
	}
	if wide.Zone(5) != (api.Rect{X0: 600, Y0: 300, X1: 900, Y1: 600}) || high.Zone(4) != (api.Rect{X0: 0, Y0: 600, X1: 300, Y1: 900}) {
		t.Error(wide.Zone(5), high.Zone(4))
	}
	if l := wide.Beside(0); !slices.Equal(l, []int{1, 3, 4}) {
		t.Error(l)
	}
	if l := high.Beside(2); !slices.Equal(l, []int{0, 1, 3, 4, 5}) {
		t.Error(l)
	}
	if l := wide.Beside(2); !slices.Equal(l, []int{1, 4, 5}) { // 3 stands in the next row, and not beside it
		t.Error(l)
	}
}

func TestBesideInTheGreatestWorld(t *testing.T) {
	m := mapOf(t, api.Config{Cols: 4, Rows: 4, Side: 256, Ids: 1, Queue: 1})
	for k, want := range map[int][]int{
		0: {1, 4, 5}, 3: {2, 6, 7}, 12: {8, 9, 13}, 15: {10, 11, 14}, // corners
		1: {0, 2, 4, 5, 6}, 4: {0, 1, 5, 8, 9}, 11: {6, 7, 10, 14, 15}, 14: {9, 10, 11, 13, 15}, // borders
		5: {0, 1, 2, 4, 6, 8, 9, 10}, 10: {5, 6, 7, 9, 11, 13, 14, 15}, // the midst
		-1: nil, 16: nil, 17: nil, -16: nil, 100: nil, math.MinInt: nil, math.MaxInt: nil,
	} {
		if l := m.Beside(k); !slices.Equal(l, want) {
			t.Errorf("Beside(%d) = %d, want %d", k, l, want)
		}
	}
}

// In every world each zone is what the chapter says of it.
func TestEachZone(t *testing.T) {
	for _, c := range worlds() {
		m, l := mapOf(t, c), zonesOf(c)
		if m.Count() != c.Cols*c.Rows {
			t.Fatalf("%+v: Count %d", c, m.Count())
		}
		if m.World() != (api.Rect{X0: 0, Y0: 0, X1: c.Cols * c.Side, Y1: c.Rows * c.Side}) {
			t.Fatalf("%+v: World %+v", c, m.World())
		}
		for _, z := range l {
			if r := m.Zone(z.k); r != (api.Rect{X0: z.x0, Y0: z.y0, X1: z.x1, Y1: z.y1}) {
				t.Fatalf("%+v: Zone(%d) = %+v", c, z.k, r)
			}
			if b := m.Beside(z.k); !slices.Equal(b, besideOf(l, z.k)) {
				t.Fatalf("%+v: Beside(%d) = %d, want %d", c, z.k, b, besideOf(l, z.k))
			}
		}
		for _, k := range []int{math.MinInt, -len(l), -2, -1, len(l), len(l) + 1, len(l) + c.Cols, 100, 1 << 32, math.MaxInt} {
			if r, b := m.Zone(k), m.Beside(k); r != (api.Rect{}) || len(b) != 0 {
				t.Fatalf("%+v: there is no zone %d, but Zone is %+v, Beside %d", c, k, r, b)
			}
		}
	}
}

// mustPoint holds what is told of a point against what the chapter says.
func mustPoint(t *testing.T, m *zones.Map, l []zone, x, y int) {
	t.Helper()
	if k := m.Of(x, y); k != owner(l, x, y) {
		t.Fatalf("%+v: Of(%d, %d) = %d, want %d", m.Config, x, y, k, owner(l, x, y))
	}
	if n, want := m.Near(x, y), nearOf(l, x, y, m.Radius); !slices.Equal(n, want) {
		t.Fatalf("%+v: Near(%d, %d) = %d, want %d", m.Config, x, y, n, want)
	}
	if u, v := m.In(x, y); u != nearest(x, m.Cols*m.Side) || v != nearest(y, m.Rows*m.Side) {
		t.Fatalf("%+v: In(%d, %d) = %d, %d", m.Config, x, y, u, v)
	}
}

func TestPointsAtAllEdges(t *testing.T) {
	for _, c := range worlds() {
		m, l := mapOf(t, c), zonesOf(c)
		for _, x := range marks(c.Cols, c.Side, c.Radius) {
			for _, y := range marks(c.Rows, c.Side, c.Radius) {
				mustPoint(t, m, l, x, y)
			}
		}
	}
}

func TestPointsMany(t *testing.T) {
	next := chance()
	for range 3000 {
		side := 256 + next(1000)
		c := api.Config{Cols: 1 + next(4), Rows: 1 + next(4), Side: side, Radius: next(side + 1), Ids: 1, Queue: 1}
		m, l := mapOf(t, c), zonesOf(c)
		for range 50 {
			mustPoint(t, m, l, next(6*side)-side, next(6*side)-side)
		}
	}
}

// A point that lies just Radius apart from a zone is near to it, one more is not; whatever Speed is.
func TestNearByJustRadius(t *testing.T) {
	for _, c := range []struct {
		radius, x int
		near      []int
	}{
		{0, 255, nil}, {0, 256, nil}, // nobody lies 0 apart from a zone but its own points
		{1, 255, []int{1}}, {1, 254, nil}, {1, 256, []int{0}}, {1, 257, nil},
		{256, 0, []int{1}}, {256, 255, []int{1}}, {256, 256, []int{0, 2}}, {256, 511, []int{0, 2}}, {256, 512, []int{1}}, {256, 767, []int{1}},
		{255, 0, nil}, {255, 1, []int{1}}, {255, 256, []int{0}}, {255, 257, []int{0, 2}}, {255, 510, []int{0, 2}}, {255, 511, []int{2}}, {255, 766, []int{1}}, {255, 767, nil},
	} {
		for _, speed := range []int{0, 256} {
			flat := mapOf(t, api.Config{Cols: 3, Rows: 1, Side: 256, Radius: c.radius, Speed: speed, Ids: 1, Queue: 1})
			steep := mapOf(t, api.Config{Cols: 1, Rows: 3, Side: 256, Radius: c.radius, Speed: speed, Ids: 1, Queue: 1})
			if l := flat.Near(c.x, 7); !slices.Equal(l, c.near) {
				t.Errorf("Radius %d: Near(%d, 7) = %d, want %d", c.radius, c.x, l, c.near)
			}
			if l := steep.Near(7, c.x); !slices.Equal(l, c.near) {
				t.Errorf("Radius %d: Near(7, %d) = %d, want %d", c.radius, c.x, l, c.near)
			}
		}
	}
}

// P1, R1: a nil map has nothing; nor has one that New did not make.
func TestNilMap(t *testing.T) {
	for _, m := range []*zones.Map{nil, {}} {
		if m.Count() != 0 || m.World() != (api.Rect{}) {
			t.Error(m.Count(), m.World())
		}
		for _, n := range []int{math.MinInt, -api.Max, -1, 0, 1, 255, 256, api.Max, math.MaxInt} {
			if r, l := m.Zone(n), m.Beside(n); r != (api.Rect{}) || len(l) != 0 {
				t.Error(n, r, l)
			}
			for _, y := range []int{math.MinInt, -1, 0, 1, 256, math.MaxInt} {
				if x, v := m.In(n, y); m.Of(n, y) != -1 || len(m.Near(n, y)) != 0 || x != 0 || v != 0 {
					t.Error(n, y, m.Of(n, y), m.Near(n, y), x, v)
				}
			}
		}
	}
}

// 4.3

// Each point of the world lies in one zone alone, the one that Of tells; a point beyond it in none.
func TestEachPointLiesInOneZone(t *testing.T) {
	for _, c := range worlds() {
		m := mapOf(t, c)
		world := m.World()
		for _, x := range marks(c.Cols, c.Side, 1) {
			for _, y := range marks(c.Rows, c.Side, 1) {
				var in []int
				for k := range m.Count() {
					if r := m.Zone(k); r.X0 <= x && x < r.X1 && r.Y0 <= y && y < r.Y1 {
						in = append(in, k)
					}
				}
				inside := world.X0 <= x && x < world.X1 && world.Y0 <= y && y < world.Y1
				if inside && (len(in) != 1 || in[0] != m.Of(x, y)) || !inside && (len(in) != 0 || m.Of(x, y) != -1) {
					t.Fatalf("%+v: %d %d lies in %d, Of is %d", c, x, y, in, m.Of(x, y))
				}
			}
		}
	}
}

func TestWhatIsNearLiesBeside(t *testing.T) {
	for _, c := range worlds() {
		m := mapOf(t, c)
		for _, x := range marks(c.Cols, c.Side, c.Radius) {
			for _, y := range marks(c.Rows, c.Side, c.Radius) {
				beside := m.Beside(m.Of(x, y))
				for _, k := range m.Near(x, y) {
					if !slices.Contains(beside, k) {
						t.Fatalf("%+v: %d %d is near to %d, which is not beside its zone", c, x, y, k)
					}
				}
			}
		}
	}
}

// Whoever goes just Speed, in x and in y, and is brought into the world, is in the same zone or in one beside it.
func TestWhoeverGoesStaysBeside(t *testing.T) {
	for _, c := range worlds() {
		m := mapOf(t, c)
		for _, x := range marks(c.Cols, c.Side, 0) {
			for _, y := range marks(c.Rows, c.Side, 0) {
				from := m.Of(x, y)
				if from < 0 {
					continue
				}
				near := append(m.Beside(from), from)
				for _, dx := range []int{-c.Speed, 0, c.Speed} {
					for _, dy := range []int{-c.Speed, 0, c.Speed} {
						if to := m.Of(m.In(x+dx, y+dy)); !slices.Contains(near, to) {
							t.Fatalf("%+v: from %d %d by %d %d to the zone %d", c, x, y, dx, dy, to)
						}
					}
				}
			}
		}
	}
}

// What was brought into the world lies in it, and is not brought any further.
func TestInLiesIn(t *testing.T) {
	for _, c := range worlds() {
		m := mapOf(t, c)
		for _, x := range marks(c.Cols, c.Side, c.Radius) {
			for _, y := range marks(c.Rows, c.Side, c.Radius) {
				u, v := m.In(x, y)
				if m.Of(u, v) < 0 || m.Of(x, y) >= 0 && (u != x || v != y) {
					t.Fatalf("%+v: In(%d, %d) = %d, %d", c, x, y, u, v)
				}
			}
		}
	}
}

// R4: what is answered is the asker's own.
func TestListsAreTheAskersOwn(t *testing.T) {
	m := mapOf(t, api.Config{Cols: 3, Rows: 3, Side: 256, Radius: 256, Ids: 1, Queue: 1})
	for _, ask := range []func() []int{func() []int { return m.Beside(4) }, func() []int { return m.Near(300, 300) }} {
		was := slices.Clone(ask())
		first, second := ask(), ask()
		for i := range first[:cap(first)] {
			first[:cap(first)][i] = -7
		}
		if !slices.Equal(second, was) || !slices.Equal(ask(), was) {
			t.Error(second, ask(), was)
		}
	}
}

// R4, R5: each map has its own config, and answers the same again whatever was asked between.
func TestMapsAreNotEachOther(t *testing.T) {
	c := good()
	a, b := mapOf(t, c), mapOf(t, api.Config{Cols: 4, Rows: 1, Side: 256, Radius: 256, Ids: 1, Queue: 1})
	again := mapOf(t, c)
	if a == again {
		t.Fatal("two maps are one")
	}
	c.Cols, again.Cols = 4, 1
	for range 3 {
		if a.Count() != 6 || b.Count() != 4 || a.Of(1500, 2500) != 5 || b.Of(700, 0) != 2 || !slices.Equal(a.Near(995, 5), []int{1}) || !slices.Equal(b.Near(300, 5), []int{0, 2}) || a.World() != (api.Rect{X1: 2000, Y1: 3000}) {
			t.Error(a.Count(), b.Count(), a.Of(1500, 2500), b.Of(700, 0), a.Near(995, 5), b.Near(300, 5))
		}
	}
}

// The calls have the chapter's signatures.
var (
	_ func(api.Config) api.Errno               = zones.Check
	_ func(api.Config) (*zones.Map, api.Errno) = zones.New
	_ func(*zones.Map) int                     = (*zones.Map).Count
	_ func(*zones.Map) api.Rect                = (*zones.Map).World
	_ func(*zones.Map, int) api.Rect           = (*zones.Map).Zone
	_ func(*zones.Map, int, int) int           = (*zones.Map).Of
	_ func(*zones.Map, int, int) (int, int)    = (*zones.Map).In
	_ func(*zones.Map, int) []int              = (*zones.Map).Beside
	_ func(*zones.Map, int, int) []int         = (*zones.Map).Near
)
