package ids_test

import (
	"math"
	"slices"
	"testing"

	"hedgerow/api"
	"hedgerow/ids"
	"hedgerow/sample"
)

const (
	aside  = 8              // generations that one Reserve sets aside
	maxGen = 1 << 20        // the generation of an index that is worn
	steps  = maxGen / aside // Reserves that set all generations aside
)

// pool is what a pool, or a model of one, is asked.
type pool interface {
	Head(k int) (int, bool, api.Errno)
	Gen(k, i int) int
	Reserve(k, i int) api.Errno
	Issue(k int) (api.ID, api.Errno)
	Take(id api.ID) api.Errno
	Free(id api.ID) api.Errno
	Alive(id api.ID) bool
	Lapse() int
	List() []api.ID
}

// model is a pool by the chapter's words, slot an index of it.
type (
	model = sample.Pool
	slot  = sample.Slot
)

var newModel = sample.NewPool

// name is one.
func name(k, i, gen int) api.ID { return api.ID{Shard: k, Index: i, Gen: gen} }

// poolOf makes a pool.
func poolOf(t *testing.T, shards, indices int) *ids.Pool {
	t.Helper()
	p, e := ids.New(shards, indices)
	if p == nil || e != api.OK {
		t.Fatalf("New(%d, %d): %v, %d", shards, indices, p != nil, e)
	}
	return p
}

// mustReserve sets generations of an index aside, so often.
func mustReserve(t *testing.T, p pool, k, i, often int) {
	t.Helper()
	for n := 0; n < often; n++ {
		if e := p.Reserve(k, i); e != api.OK {
			t.Fatalf("Reserve(%d, %d): %d, behind %d such", k, i, e, n)
		}
	}
}

// ready makes a pool, and sets Block generations of each index aside.
func ready(t *testing.T, shards, indices int) *ids.Pool {
	t.Helper()
	p := poolOf(t, shards, indices)
	for k := 0; k < shards; k++ {
		for i := 0; i < indices; i++ {
			mustReserve(t, p, k, i, 1)
		}
	}
	return p
}

// must says so if an answer is another one.
func must(t *testing.T, what string, got, want api.Errno) {
	t.Helper()
	if got != want {
		t.Errorf("%s: %d, want %d", what, got, want)
	}
}

func mustTake(t *testing.T, p pool, id api.ID, want api.Errno) {
	t.Helper()
	if e := p.Take(id); e != want {
		t.Errorf("Take(%v): %d, want %d", id, e, want)
	}
	if want == api.OK && !p.Alive(id) {
		t.Errorf("Alive(%v): false", id)
	}
}

func mustFree(t *testing.T, p pool, id api.ID, want api.Errno) {
	t.Helper()
	if e := p.Free(id); e != want {
		t.Errorf("Free(%v): %d, want %d", id, e, want)
	}
	if p.Alive(id) && want != api.ErrArg {
		t.Errorf("Alive(%v): true", id)
	}
}

func mustIssue(t *testing.T, p pool, want api.ID) {
	t.Helper()
	id, e := p.Issue(want.Shard)
	if id != want || e != api.OK || !p.Alive(want) {
		t.Errorf("Issue(%d): %v, %d, alive: %v; want %v", want.Shard, id, e, p.Alive(want), want)
	}
}

// mustNotIssue says so if Issue does not answer this error alone.
func mustNotIssue(t *testing.T, p pool, k int, want api.Errno) {
	t.Helper()
	if id, e := p.Issue(k); id != (api.ID{}) || e != want {
		t.Errorf("Issue(%d): %v, %d; want the error %d alone", k, id, e, want)
	}
}

func mustHead(t *testing.T, p pool, k, want int, set bool) {
	t.Helper()
	if i, ok, e := p.Head(k); i != want || ok != set || e != api.OK {
		t.Errorf("Head(%d): %d, %v, %d; want %d, %v", k, i, ok, e, want, set)
	}
}

// mustHaveNoHead says so if Head does not answer this error alone.
func mustHaveNoHead(t *testing.T, p pool, k int, want api.Errno) {
	t.Helper()
	if i, ok, e := p.Head(k); i != 0 || ok || e != want {
		t.Errorf("Head(%d): %d, %v, %d; want the error %d alone", k, i, ok, e, want)
	}
}

func mustGen(t *testing.T, p pool, k, i, want int) {
	t.Helper()
	if g := p.Gen(k, i); g != want {
		t.Errorf("Gen(%d, %d): %d, want %d", k, i, g, want)
	}
}

func mustLapse(t *testing.T, p pool, want int) {
	t.Helper()
	if n := p.Lapse(); n != want {
		t.Errorf("Lapse: %d, want %d", n, want)
	}
}

func mustList(t *testing.T, p pool, want ...api.ID) {
	t.Helper()
	if l := p.List(); !slices.Equal(l, want) {
		t.Errorf("List: %v, want %v", l, want)
	}
}

// drain gives names of a shard until none of its indices is free; it tells them.
func drain(p pool, k int) []api.ID {
	var l []api.ID
	for len(l) <= 2*api.MaxIds {
		i, ok, e := p.Head(k)
		if e != api.OK {
			break
		}
		if !ok {
			p.Reserve(k, i)
		}
		id, _ := p.Issue(k)
		l = append(l, id)
	}
	return l
}

// mustRow says so if the row of a shard is another one; behind it the row is empty.
func mustRow(t *testing.T, p pool, k int, want ...int) {
	t.Helper()
	var row []int
	for _, id := range drain(p, k) {
		row = append(row, id.Index)
	}
	if !slices.Equal(row, want) {
		t.Errorf("row of %d: %v, want %v", k, row, want)
	}
	mustHaveNoHead(t, p, k, api.ErrFull)
}

// far is numbers that no shard, index or generation has; some of them are 0 and 1 if bits of them are lost.
func far() []int {
	l := []int{math.MinInt, math.MinInt + 1, math.MaxInt, math.MaxInt - 1}
	for _, bit := range []int{21, 24, 31, 32, 33, 40, 48, 52, 56, 58, 59, 60, 61, 62} {
		l = append(l, 1<<bit, 1<<bit+1, 1<<bit-1, -1<<bit, -1<<bit+1, -1<<bit-1)
	}
	return l
}

// around is generations about those of an index.
func around(s *slot) []int {
	l := []int{-1, 0, 1, maxGen - 2, maxGen - 1, maxGen, maxGen + 1}
	for d := -1; d <= 1; d++ {
		l = append(l, s.Gen+d, s.Bound+d)
	}
	slices.Sort(l)
	return slices.Compact(l)
}

// mustBeAlike says so if a pool tells something else than the model; nothing changes.
func mustBeAlike(t *testing.T, p *ids.Pool, m *model) {
	t.Helper()
	for k := -1; k <= m.Shards; k++ {
		i, ok, e := p.Head(k)
		if wi, wok, we := m.Head(k); i != wi || ok != wok || e != we {
			t.Errorf("Head(%d): %d, %v, %d; want %d, %v, %d", k, i, ok, e, wi, wok, we)
		}
		for i := -1; i <= m.Ids; i++ {
			mustGen(t, p, k, i, m.Gen(k, i))
			s := m.Slots[[2]int{k, i}]
			if s == nil {
				s = &slot{}
			}
			for _, g := range around(s) {
				if a, want := p.Alive(name(k, i, g)), m.Alive(name(k, i, g)); a != want {
					t.Errorf("Alive(%v): %v, want %v", name(k, i, g), a, want)
				}
			}
		}
	}
	mustList(t, p, m.List()...)
}

// mustEndAlike says so if a pool's rows are not the model's; they are empty behind it.
func mustEndAlike(t *testing.T, p *ids.Pool, m *model) {
	t.Helper()
	for k := 0; k < m.Shards; k++ {
		if l, want := drain(p, k), drain(m, k); !slices.Equal(l, want) {
			t.Errorf("the names of %d that follow: %v, want %v", k, l, want)
		}
	}
	mustBeAlike(t, p, m)
}

// call is one that may change a pool: r Reserve, i Issue, t Take, f Free, l Lapse.
type call struct {
	what rune
	id   api.ID
}

// answer is what a call told.
type answer struct {
	id api.ID
	n  int
	e  api.Errno
}

// do calls a pool, or a model of one.
func do(p pool, c call) answer {
	switch c.what {
	case 'r':
		return answer{e: p.Reserve(c.id.Shard, c.id.Index)}
	case 'i':
		id, e := p.Issue(c.id.Shard)
		return answer{id: id, e: e}
	case 't':
		return answer{e: p.Take(c.id)}
	case 'f':
		return answer{e: p.Free(c.id)}
	}
	return answer{n: p.Lapse()}
}

// both calls a pool and its model, which must answer alike.
func both(t *testing.T, p *ids.Pool, m *model, c call) {
	t.Helper()
	if got, want := do(p, c), do(m, c); got != want {
		t.Errorf("%c %v: %+v, want %+v", c.what, c.id, got, want)
	}
}

// chance is the same row of numbers each time.
func chance() func(n int) int {
	seed := uint64(1)
	return func(n int) int {
		seed = seed*6364136223846793005 + 1442695040888963407
		return int((seed >> 33) % uint64(n))
	}
}

// 8.1

func TestNewOfAllSizes(t *testing.T) {
	for shards := 1; shards <= 16; shards++ {
		for n := 1; n <= 16; n++ {
			p := poolOf(t, shards, n)
			mustBeAlike(t, p, newModel(shards, n))
			mustEndAlike(t, p, newModel(shards, n))
		}
	}
}

func TestNewRefuses(t *testing.T) {
	wrong := append(far(), -17, -16, -2, -1, 0, 17, 18, 32, 255, 256, 257, maxGen)
	for _, n := range wrong {
		for _, good := range []int{1, 2, 16} {
			for _, c := range [][2]int{{n, good}, {good, n}, {n, n}} {
				if p, e := ids.New(c[0], c[1]); p != nil || e != api.ErrArg {
					t.Errorf("New(%d, %d): %v, %d; want ErrArg alone", c[0], c[1], p != nil, e)
				}
			}
		}
	}
}

func TestAFreshPool(t *testing.T) {
	p := poolOf(t, 3, 4)
	for k := 0; k < 3; k++ {
		mustHead(t, p, k, 0, false)
		mustNotIssue(t, p, k, api.ErrState)
		for i := 0; i < 4; i++ {
			mustGen(t, p, k, i, 0)
			mustTake(t, p, name(k, i, 0), api.ErrStale)
			mustFree(t, p, name(k, i, 0), api.ErrStale)
		}
	}
	mustList(t, p)
	mustLapse(t, p, 0)
	for k := 0; k < 3; k++ {
		mustRow(t, p, k, 0, 1, 2, 3)
	}
}

func TestHead(t *testing.T) {
	p := poolOf(t, 2, 2)
	mustReserve(t, p, 0, 1, 1)
	mustHead(t, p, 0, 0, false) // of the first one none is set aside
	mustReserve(t, p, 0, 0, 1)
	mustHead(t, p, 0, 0, true)
	mustHead(t, p, 0, 0, true) // it changes nothing
	mustIssue(t, p, name(0, 0, 0))
	mustHead(t, p, 0, 1, true)
	mustIssue(t, p, name(0, 1, 0))
	mustHaveNoHead(t, p, 0, api.ErrFull)
	mustHead(t, p, 1, 0, false)
	mustFree(t, p, name(0, 1, 0), api.OK)
	mustHead(t, p, 0, 1, true)
	for _, k := range append(far(), -2, -1, 2, 3, 16) {
		mustHaveNoHead(t, p, k, api.ErrArg)
		mustNotIssue(t, p, k, api.ErrArg)
	}
}

// TestGenerationsThatAreSetAside: of a first one that is just below its bound, at it, and that of the bound ahead.
func TestGenerationsThatAreSetAside(t *testing.T) {
	p := poolOf(t, 1, 1)
	for g := 0; g < 5*aside; g++ {
		if g%aside == 0 {
			mustHead(t, p, 0, 0, false)
			mustNotIssue(t, p, 0, api.ErrState)
			mustReserve(t, p, 0, 0, 1)
		}
		mustHead(t, p, 0, 0, true)
		mustGen(t, p, 0, 0, g)
		mustIssue(t, p, name(0, 0, g))
		mustGen(t, p, 0, 0, g)
		mustHaveNoHead(t, p, 0, api.ErrFull)
		mustNotIssue(t, p, 0, api.ErrFull)
		mustFree(t, p, name(0, 0, g), api.OK)
		mustGen(t, p, 0, 0, g+1)
	}
}

func TestEachReserveSetsABlockAside(t *testing.T) {
	for often := 0; often <= 6; often++ {
		p := poolOf(t, 2, 3)
		mustReserve(t, p, 1, 2, often)
		mustTake(t, p, name(1, 2, often*aside+1), api.ErrStale)
		mustTake(t, p, name(1, 2, often*aside), api.ErrStale)
		if often > 0 {
			mustTake(t, p, name(1, 2, often*aside-1), api.OK)
		}
	}
}

// TestReserveCountsFromTheBound: not from the generation, whoever has the index.
func TestReserveCountsFromTheBound(t *testing.T) {
	p := poolOf(t, 1, 1)
	mustReserve(t, p, 0, 0, 1)
	mustTake(t, p, name(0, 0, 5), api.OK)
	mustReserve(t, p, 0, 0, 1) // it is somebody's
	mustFree(t, p, name(0, 0, 5), api.OK)
	mustTake(t, p, name(0, 0, 2*aside), api.ErrStale)
	mustTake(t, p, name(0, 0, 2*aside-1), api.OK)
	mustFree(t, p, name(0, 0, 2*aside-1), api.OK) // the generation is the bound
	mustNotIssue(t, p, 0, api.ErrState)
	mustReserve(t, p, 0, 0, 1)
	mustTake(t, p, name(0, 0, 3*aside), api.ErrStale)
	mustIssue(t, p, name(0, 0, 2*aside))
}

func TestReserveRefuses(t *testing.T) {
	p, m := poolOf(t, 2, 3), newModel(2, 3)
	for _, k := range append(far(), -1, 2) {
		for _, i := range append(far(), -1, 0, 2, 3) {
			must(t, "Reserve", p.Reserve(k, i), api.ErrArg)
			must(t, "Reserve", p.Reserve(0, max(i, 3)), api.ErrArg)
			must(t, "Reserve", p.Reserve(1, min(i, -1)), api.ErrArg)
		}
	}
	mustLapse(t, p, 0)
	mustEndAlike(t, p, m)
}

// TestTheBoundEndsAtMaxGen: Block divides MaxGen, so that the last bound but one is just Block less.
func TestTheBoundEndsAtMaxGen(t *testing.T) {
	p := poolOf(t, 1, 2)
	mustReserve(t, p, 0, 0, steps-1)
	mustTake(t, p, name(0, 0, maxGen-aside), api.ErrStale)
	mustReserve(t, p, 0, 0, 1)
	must(t, "Reserve", p.Reserve(0, 0), api.ErrRange)
	must(t, "Reserve", p.Reserve(0, 0), api.ErrRange)
	for _, g := range []int{maxGen, maxGen + 1, maxGen + aside - 1} {
		mustTake(t, p, name(0, 0, g), api.ErrStale)
	}
	mustHead(t, p, 0, 0, true)
	mustTake(t, p, name(0, 0, maxGen-1), api.OK)
	must(t, "Reserve of somebody's", p.Reserve(0, 0), api.ErrRange)
	mustFree(t, p, name(0, 0, maxGen-1), api.OK)
	must(t, "Reserve of a worn one", p.Reserve(0, 0), api.ErrRange)
	mustHead(t, p, 0, 1, false)
	mustReserve(t, p, 0, 1, 1)
}

func TestGen(t *testing.T) {
	p := ready(t, 2, 3)
	mustTake(t, p, name(0, 0, 3), api.OK)
	mustTake(t, p, name(1, 2, 7), api.OK)
	mustTake(t, p, name(1, 0, 2), api.OK)
	mustFree(t, p, name(1, 0, 2), api.OK)
	for k, l := range [][]int{{3, 0, 0}, {3, 0, 7}} {
		for i, g := range l {
			mustGen(t, p, k, i, g)
		}
	}
	for _, n := range append(far(), -1, 3) {
		for _, good := range []int{0, 1} {
			mustGen(t, p, n, good, 0)
			mustGen(t, p, good, n, 0)
			mustGen(t, p, n, n, 0)
		}
	}
	mustGen(t, p, 2, 0, 0)
	mustGen(t, p, 0, 5, 0) // not the next shard's
	mustGen(t, p, 2, -1, 0)
	mustGen(t, p, -1, 3, 0)
}

// 8.2

func TestIssueGoesByTheRow(t *testing.T) {
	p := ready(t, 2, 3)
	mustIssue(t, p, name(1, 0, 0))
	mustIssue(t, p, name(1, 1, 0))
	mustFree(t, p, name(1, 0, 0), api.OK) // 2 0
	mustIssue(t, p, name(1, 2, 0))
	mustFree(t, p, name(1, 2, 0), api.OK) // 0 2
	mustFree(t, p, name(1, 1, 0), api.OK) // 0 2 1
	mustIssue(t, p, name(1, 0, 1))
	mustIssue(t, p, name(1, 2, 1))
	mustFree(t, p, name(1, 0, 1), api.OK) // 1 0
	mustIssue(t, p, name(1, 1, 1))
	mustIssue(t, p, name(1, 0, 2))
	mustNotIssue(t, p, 1, api.ErrFull)
	mustList(t, p, name(1, 0, 2), name(1, 1, 1), name(1, 2, 1))
	mustRow(t, p, 0, 0, 1, 2)
}

func TestIssueWaitsForTheFirstOfTheRow(t *testing.T) {
	p := poolOf(t, 1, 3)
	mustReserve(t, p, 0, 1, 2)
	mustReserve(t, p, 0, 2, 1)
	mustNotIssue(t, p, 0, api.ErrState)
	mustNotIssue(t, p, 0, api.ErrState) // nothing was set aside by that
	mustHead(t, p, 0, 0, false)
	mustList(t, p)
	mustReserve(t, p, 0, 0, 1)
	mustIssue(t, p, name(0, 0, 0))
	mustIssue(t, p, name(0, 1, 0))
}

func TestTheNamesOfTheChapter(t *testing.T) {
	p := poolOf(t, 1, 2)
	mustNotIssue(t, p, 0, api.ErrState)
	mustReserve(t, p, 0, 0, 1)
	mustIssue(t, p, name(0, 0, 0))
	mustFree(t, p, name(0, 0, 0), api.OK)
	mustReserve(t, p, 0, 1, 1)
	mustIssue(t, p, name(0, 1, 0))
	mustIssue(t, p, name(0, 0, 1))
	mustNotIssue(t, p, 0, api.ErrFull)
}

// TestTakeLeavesTheRow: from its front, its midst and its end; the others stay in their order.
func TestTakeLeavesTheRow(t *testing.T) {
	for n := 1; n <= 5; n++ {
		for i := 0; i < n; i++ {
			p := ready(t, 1, n)
			mustTake(t, p, name(0, i, 0), api.OK)
			mustTake(t, p, name(0, i, 0), api.ErrState)
			var row []int
			for j := 0; j < n; j++ {
				if j != i {
					row = append(row, j)
				}
			}
			mustList(t, p, name(0, i, 0))
			mustRow(t, p, 0, row...)

			p = ready(t, 1, n)
			mustTake(t, p, name(0, i, 4), api.OK)
			mustFree(t, p, name(0, i, 4), api.OK)
			mustList(t, p)
			mustGen(t, p, 0, i, 5)
			mustRow(t, p, 0, append(row, i)...)
		}
	}
}

// TestTakeOfAFreeIndex: of each generation about the index's and its bound.
func TestTakeOfAFreeIndex(t *testing.T) {
	for _, gen := range []int{0, 1, 6, 7, 8, 9, 15, 16} {
		for _, often := range []int{2, 3} {
			for g := -2; g <= often*aside+2; g++ {
				p := poolOf(t, 2, 2)
				mustReserve(t, p, 1, 1, often)
				if gen > 0 {
					mustTake(t, p, name(1, 1, gen-1), api.OK)
					mustFree(t, p, name(1, 1, gen-1), api.OK)
				}
				want := api.OK
				if g < 0 {
					want = api.ErrArg
				} else if g < gen || g >= often*aside {
					want = api.ErrStale
				}
				mustTake(t, p, name(1, 1, g), want)
				if want != api.OK {
					mustGen(t, p, 1, 1, gen)
					mustList(t, p)
					mustRow(t, p, 1, 0, 1)
					continue
				}
				mustGen(t, p, 1, 1, g)
				mustList(t, p, name(1, 1, g))
				mustRow(t, p, 1, 0)
			}
		}
	}
}

// TestTakeOfAnIndexThatIsNotFree: ErrState is ahead of ErrStale, and ErrArg ahead of both.
func TestTakeOfAnIndexThatIsNotFree(t *testing.T) {
	p := poolOf(t, 1, 2)
	mustReserve(t, p, 0, 0, 2)
	mustTake(t, p, name(0, 0, 5), api.OK)
	for g := 0; g <= 2*aside+1; g++ {
		mustTake(t, p, name(0, 0, g), api.ErrState)
	}
	for _, g := range far() {
		want := api.ErrState
		if g < 0 {
			want = api.ErrArg
		}
		mustTake(t, p, name(0, 0, g), want)
	}
	mustList(t, p, name(0, 0, 5))
	mustRow(t, p, 0, 1)

	p = wornPool(t, 1)
	for _, g := range append(far(), 0, 1, maxGen-2, maxGen-1, maxGen, maxGen+1) {
		want := api.ErrState
		if g < 0 {
			want = api.ErrArg
		}
		mustTake(t, p, name(0, 0, g), want)
	}
	mustGen(t, p, 0, 0, maxGen)
	mustList(t, p)
}

func TestTakeRefusesWhatIsNoName(t *testing.T) {
	p, m := ready(t, 2, 3), newModel(2, 3)
	for at := range m.Slots {
		m.Reserve(at[0], at[1])
	}
	for _, n := range append(far(), -1) {
		for _, id := range []api.ID{name(n, 0, 0), name(0, n, 0), name(n, n, 0), name(n, 0, -1), name(0, n, maxGen), name(2, n, n), name(n, 3, n)} {
			mustTake(t, p, id, api.ErrArg)
		}
		want := api.ErrStale
		if n < 0 {
			want = api.ErrArg
		}
		mustTake(t, p, name(0, 0, n), want)
		mustTake(t, p, name(1, 2, n), want)
	}
	for _, id := range []api.ID{name(2, 0, 0), name(0, 3, 0), name(1, 3, 0), name(0, 4, 0), name(1, -1, 0), name(-1, 3, 0), name(2, -1, 0), name(2, 3, -1)} {
		mustTake(t, p, id, api.ErrArg)
	}
	mustEndAlike(t, p, m)
}

// TestTakeSkipsGenerations: those that are passed over are given no more.
func TestTakeSkipsGenerations(t *testing.T) {
	p := poolOf(t, 1, 1)
	mustReserve(t, p, 0, 0, 3)
	mustIssue(t, p, name(0, 0, 0))
	mustFree(t, p, name(0, 0, 0), api.OK)
	mustTake(t, p, name(0, 0, 20), api.OK)
	mustFree(t, p, name(0, 0, 20), api.OK)
	for g := 0; g <= 20; g++ {
		mustTake(t, p, name(0, 0, g), api.ErrStale)
	}
	mustIssue(t, p, name(0, 0, 21))
}

// 8.3

func TestFreeOfAName(t *testing.T) {
	p := ready(t, 2, 3)
	mustFree(t, p, name(0, 1, 0), api.ErrStale) // never given
	mustIssue(t, p, name(0, 0, 0))
	mustIssue(t, p, name(0, 1, 0))
	for _, id := range []api.ID{name(0, 1, 1), name(0, 1, 7), name(0, 1, 8), name(0, 1, maxGen), name(0, 2, 0), name(1, 1, 0), name(1, 0, 0)} {
		mustFree(t, p, id, api.ErrStale)
	}
	mustList(t, p, name(0, 0, 0), name(0, 1, 0))
	mustFree(t, p, name(0, 1, 0), api.OK)
	mustGen(t, p, 0, 1, 1)
	mustFree(t, p, name(0, 1, 0), api.ErrStale) // it was somebody's
	mustFree(t, p, name(0, 1, 1), api.ErrStale) // it is free
	mustGen(t, p, 0, 1, 1)
	mustList(t, p, name(0, 0, 0))
	mustTake(t, p, name(0, 1, 1), api.OK)
	mustFree(t, p, name(0, 1, 0), api.ErrStale) // the index is somebody else's
	mustFree(t, p, name(0, 1, 2), api.ErrStale)
	mustGen(t, p, 0, 1, 1)
	mustFree(t, p, name(0, 1, 1), api.OK)
	mustRow(t, p, 0, 2, 1)
	mustRow(t, p, 1, 0, 1, 2)
}

func TestFreeRefusesWhatIsNoName(t *testing.T) {
	p, m := ready(t, 2, 3), newModel(2, 3)
	for at := range m.Slots {
		m.Reserve(at[0], at[1])
	}
	for _, q := range []pool{p, m} {
		drain(q, 0)
		drain(q, 1)
	}
	for _, n := range append(far(), -1) {
		for _, id := range []api.ID{name(n, 0, 0), name(0, n, 0), name(n, n, 0), name(n, 0, -1), name(0, n, maxGen), name(2, n, n), name(n, 3, n)} {
			must(t, "Free", p.Free(id), api.ErrArg)
		}
		want := api.ErrStale
		if n < 0 {
			want = api.ErrArg
		}
		must(t, "Free", p.Free(name(0, 0, n)), want)
		must(t, "Free", p.Free(name(1, 2, n)), want)
	}
	for _, id := range []api.ID{name(2, 0, 0), name(0, 3, 0), name(1, 3, 0), name(0, 4, 0), name(1, -1, 0), name(-1, 3, 0), name(2, -1, 0), name(2, 3, -1)} {
		must(t, "Free", p.Free(id), api.ErrArg)
	}
	mustBeAlike(t, p, m)
	mustFree(t, p, name(0, 0, 0), api.OK)
	mustFree(t, p, name(0, 0, -1), api.ErrArg) // free, and below 0
	mustFree(t, wornPool(t, 1), name(0, 0, -1), api.ErrArg)
}

// wornPool makes a pool of one shard whose index 0 is worn by its last name's being taken back.
func wornPool(t *testing.T, indices int) *ids.Pool {
	t.Helper()
	p := poolOf(t, 1, indices)
	mustReserve(t, p, 0, 0, steps)
	mustTake(t, p, name(0, 0, maxGen-1), api.OK)
	mustFree(t, p, name(0, 0, maxGen-1), api.OK)
	return p
}

func TestTheLastGeneration(t *testing.T) {
	p := poolOf(t, 1, 1)
	mustReserve(t, p, 0, 0, steps)
	mustTake(t, p, name(0, 0, maxGen-2), api.OK)
	mustFree(t, p, name(0, 0, maxGen-2), api.OK)
	mustGen(t, p, 0, 0, maxGen-1)
	mustHead(t, p, 0, 0, true)
	mustIssue(t, p, name(0, 0, maxGen-1))
	mustList(t, p, name(0, 0, maxGen-1))
	mustFree(t, p, name(0, 0, maxGen), api.ErrStale)
	mustLapse(t, p, 0)
	mustFree(t, p, name(0, 0, maxGen-1), api.OK)
	mustBeWorn(t, p)
}

// mustBeWorn says so if the index 0 0 is not worn, the only one of its pool.
func mustBeWorn(t *testing.T, p pool) {
	t.Helper()
	for range 2 {
		mustGen(t, p, 0, 0, maxGen)
		mustHaveNoHead(t, p, 0, api.ErrFull)
		mustNotIssue(t, p, 0, api.ErrFull)
		must(t, "Reserve", p.Reserve(0, 0), api.ErrRange)
		mustTake(t, p, name(0, 0, maxGen-1), api.ErrState)
		mustTake(t, p, name(0, 0, maxGen), api.ErrState)
		mustFree(t, p, name(0, 0, maxGen-1), api.ErrStale)
		mustFree(t, p, name(0, 0, maxGen), api.ErrStale)
		mustFree(t, p, name(0, 0, maxGen+1), api.ErrStale)
		if p.Alive(name(0, 0, maxGen)) || p.Alive(name(0, 0, maxGen-1)) {
			t.Error("alive")
		}
		mustList(t, p)
		mustLapse(t, p, 0)
	}
}

func TestAWornIndexLeavesOthersAlone(t *testing.T) {
	p := wornPool(t, 3)
	mustHead(t, p, 0, 1, false)
	mustReserve(t, p, 0, 1, 1)
	mustIssue(t, p, name(0, 1, 0))
	mustFree(t, p, name(0, 1, 0), api.OK)
	mustRow(t, p, 0, 2, 1)
	mustList(t, p, name(0, 1, 1), name(0, 2, 0))
}

func TestAlive(t *testing.T) {
	p := ready(t, 2, 3)
	mustTake(t, p, name(1, 2, 3), api.OK)
	mustTake(t, p, name(0, 0, 0), api.OK)
	for k := -1; k <= 2; k++ {
		for i := -1; i <= 3; i++ {
			for g := -1; g <= aside+1; g++ {
				id := name(k, i, g)
				if a, want := p.Alive(id), id == name(1, 2, 3) || id == name(0, 0, 0); a != want {
					t.Errorf("Alive(%v): %v", id, a)
				}
			}
		}
	}
	for _, n := range far() {
		for _, id := range []api.ID{name(n, 2, 3), name(1, n, 3), name(1, 2, n), name(n, 0, 0), name(0, n, 0), name(0, 0, n), name(n, n, n)} {
			if p.Alive(id) {
				t.Errorf("Alive(%v)", id)
			}
		}
	}
	if p.Alive(name(1, 2, 3+1<<32)) || p.Alive(name(1, 2, 3+maxGen)) || p.Alive(name(1+1<<32, 2, 3)) || p.Alive(name(1, 2+1<<32, 3)) || p.Alive(name(1, 2, 3+256)) {
		t.Error("bits of a name were lost")
	}
}

// TestListIsSorted: by shard, then by index, in whatever order the names were given.
func TestListIsSorted(t *testing.T) {
	p := ready(t, 16, 16)
	next := chance()
	var want []api.ID
	for len(want) < 200 {
		id := name(next(16), next(16), next(aside))
		if p.Take(id) == api.OK {
			want = append(want, id)
		}
	}
	slices.SortFunc(want, func(a, b api.ID) int {
		if a.Shard != b.Shard {
			return a.Shard - b.Shard
		}
		return a.Index - b.Index
	})
	mustList(t, p, want...)
	for n, id := range want {
		mustFree(t, p, id, api.OK)
		mustList(t, p, want[n+1:]...)
	}
}

// TestListOfAFullPool: all names of the largest pool.
func TestListOfAFullPool(t *testing.T) {
	p := poolOf(t, 16, 16)
	var want []api.ID
	for k := 15; k >= 0; k-- {
		drain(p, k)
	}
	for k := 0; k < 16; k++ {
		for i := 0; i < 16; i++ {
			want = append(want, name(k, i, 0))
		}
		mustNotIssue(t, p, k, api.ErrFull)
	}
	mustList(t, p, want...)
}

// 8.4

func TestLapse(t *testing.T) {
	p := poolOf(t, 2, 4)
	mustLapse(t, p, 0) // nothing is set aside
	mustReserve(t, p, 0, 1, 1)
	mustReserve(t, p, 0, 2, 2)
	mustReserve(t, p, 1, 3, 1)
	mustLapse(t, p, 3)
	for k, l := range [][]int{{0, aside, 2 * aside, 0}, {0, 0, 0, aside}} {
		for i, g := range l {
			mustGen(t, p, k, i, g)
			mustTake(t, p, name(k, i, g), api.ErrStale)
			mustTake(t, p, name(k, i, max(g-1, 0)), api.ErrStale)
		}
	}
	mustList(t, p)
	mustLapse(t, p, 0) // twice in a row
	mustGen(t, p, 0, 2, 2*aside)
	mustHead(t, p, 0, 0, false)
	mustReserve(t, p, 0, 2, 1)
	mustTake(t, p, name(0, 2, 3*aside), api.ErrStale)
	mustTake(t, p, name(0, 2, 2*aside), api.OK)
	mustRow(t, p, 0, 0, 1, 3)
	mustRow(t, p, 1, 0, 1, 2, 3)
}

// TestLapseLeavesTheRowInItsOrder: those that lapsed stay where they stood.
func TestLapseLeavesTheRowInItsOrder(t *testing.T) {
	for some := 0; some < 1<<4; some++ {
		p := ready(t, 1, 4)
		for _, i := range []int{2, 0, 3, 1} {
			mustTake(t, p, name(0, i, aside-1), api.OK)
		}
		for _, i := range []int{2, 0, 3, 1} {
			mustFree(t, p, name(0, i, aside-1), api.OK)
		}
		mustLapse(t, p, 0) // all are at their bounds
		n := 0
		for i := 0; i < 4; i++ {
			if some>>i&1 == 1 {
				mustReserve(t, p, 0, i, 1)
				n++
			}
		}
		mustLapse(t, p, n)
		for i := 0; i < 4; i++ {
			mustGen(t, p, 0, i, aside+some>>i&1*aside)
		}
		mustRow(t, p, 0, 2, 0, 3, 1)
	}
}

func TestLapseBehindSomeNames(t *testing.T) {
	p := ready(t, 1, 2)
	mustIssue(t, p, name(0, 0, 0))
	mustFree(t, p, name(0, 0, 0), api.OK)
	mustTake(t, p, name(0, 1, 6), api.OK)
	mustFree(t, p, name(0, 1, 6), api.OK)
	mustLapse(t, p, 2) // of the index 1 just one generation lapses
	mustGen(t, p, 0, 0, aside)
	mustGen(t, p, 0, 1, aside)
	mustHead(t, p, 0, 0, false)
	mustNotIssue(t, p, 0, api.ErrState)
}

// TestLapseLeavesWhatIsSomebodys: and the generations of that, which may be given when it is taken back.
func TestLapseLeavesWhatIsSomebodys(t *testing.T) {
	p := ready(t, 2, 2)
	mustTake(t, p, name(0, 0, 2), api.OK)
	mustTake(t, p, name(1, 1, 7), api.OK)
	mustLapse(t, p, 2)
	mustList(t, p, name(0, 0, 2), name(1, 1, 7))
	mustGen(t, p, 0, 0, 2)
	mustGen(t, p, 0, 1, aside)
	mustGen(t, p, 1, 0, aside)
	mustGen(t, p, 1, 1, 7)
	mustLapse(t, p, 0)
	mustFree(t, p, name(0, 0, 2), api.OK)
	mustFree(t, p, name(1, 1, 7), api.OK)
	mustGen(t, p, 0, 0, 3)
	mustTake(t, p, name(0, 0, 3), api.OK)
	mustFree(t, p, name(0, 0, 3), api.OK)
	mustLapse(t, p, 1)
	mustGen(t, p, 0, 0, aside)
	mustRow(t, p, 0, 1, 0)
	mustRow(t, p, 1, 0, 1)
}

// TestTheLastBoundLapses: an index is worn by that, and leaves the row from its front, its midst or its end.
func TestTheLastBoundLapses(t *testing.T) {
	p := poolOf(t, 1, 1)
	mustReserve(t, p, 0, 0, steps-1)
	mustLapse(t, p, 1)
	mustGen(t, p, 0, 0, maxGen-aside)
	mustHead(t, p, 0, 0, false)
	mustReserve(t, p, 0, 0, 1)
	mustIssue(t, p, name(0, 0, maxGen-aside))
	mustFree(t, p, name(0, 0, maxGen-aside), api.OK)
	mustLapse(t, p, 1)
	mustBeWorn(t, p)

	for some := 1; some < 1<<3; some++ {
		p, m := poolOf(t, 2, 3), newModel(2, 3)
		for _, q := range []pool{p, m} {
			for i := 0; i < 3; i++ {
				if some>>i&1 == 1 {
					mustReserve(t, q, 1, i, steps)
				}
			}
		}
		mustLapse(t, p, m.Lapse())
		mustBeAlike(t, p, m)
		mustEndAlike(t, p, m)
	}
}

func TestTheLastNameLapses(t *testing.T) {
	p := poolOf(t, 1, 2)
	mustReserve(t, p, 0, 0, steps)
	mustTake(t, p, name(0, 0, maxGen-2), api.OK)
	mustFree(t, p, name(0, 0, maxGen-2), api.OK) // one name is left
	mustLapse(t, p, 1)
	mustGen(t, p, 0, 0, maxGen)
	mustTake(t, p, name(0, 0, maxGen-1), api.ErrState)
	mustRow(t, p, 0, 1)
}

// All calls

func TestOfANilPool(t *testing.T) {
	var p *ids.Pool
	for _, n := range append(far(), -1, 0, 1, 16) {
		mustHaveNoHead(t, p, n, api.ErrArg)
		mustGen(t, p, n, n, 0)
		must(t, "Reserve", p.Reserve(n, 0), api.ErrArg)
		must(t, "Reserve", p.Reserve(0, n), api.ErrArg)
		mustNotIssue(t, p, n, api.ErrArg)
		for _, id := range []api.ID{name(n, 0, 0), name(0, n, 0), name(0, 0, n), name(n, n, n)} {
			mustTake(t, p, id, api.ErrArg)
			mustFree(t, p, id, api.ErrArg)
			if p.Alive(id) {
				t.Errorf("Alive(%v)", id)
			}
		}
	}
	mustLapse(t, p, 0)
	mustList(t, p)
}

// TestFirstAndLastOfAPool: of pools of all sizes, each corner and what lies just beside it.
func TestFirstAndLastOfAPool(t *testing.T) {
	for _, shards := range []int{1, 2, 15, 16} {
		for _, n := range []int{1, 2, 15, 16} {
			for _, k := range []int{-1, 0, shards - 1, shards} {
				for _, i := range []int{-1, 0, n - 1, n} {
					p, m := poolOf(t, shards, n), newModel(shards, n)
					for _, what := range "trttfftli" {
						for _, g := range []int{0, 3} {
							both(t, p, m, call{what, name(k, i, g)})
						}
					}
					mustBeAlike(t, p, m)
					mustEndAlike(t, p, m)
				}
			}
		}
	}
}

// TestAnotherShardsNames: what happens to one shard's changes nothing of another one's.
func TestAnotherShardsNames(t *testing.T) {
	p := ready(t, 3, 2)
	mustIssue(t, p, name(1, 0, 0))
	mustIssue(t, p, name(2, 0, 0))
	mustIssue(t, p, name(1, 1, 0))
	mustHaveNoHead(t, p, 1, api.ErrFull)
	mustHead(t, p, 0, 0, true)
	mustHead(t, p, 2, 1, true)
	mustFree(t, p, name(2, 0, 0), api.OK)
	mustFree(t, p, name(1, 1, 0), api.OK)
	mustReserve(t, p, 1, 0, 1)
	mustTake(t, p, name(0, 0, aside), api.ErrStale)
	mustTake(t, p, name(2, 0, aside), api.ErrStale)
	mustGen(t, p, 0, 0, 0)
	mustGen(t, p, 2, 0, 1)
	mustRow(t, p, 2, 1, 0)
	mustRow(t, p, 1, 1)
	mustRow(t, p, 0, 0, 1)
}

// TestPoolsStandAlone: what is done to one changes nothing of another one.
func TestPoolsStandAlone(t *testing.T) {
	a, b := ready(t, 2, 2), poolOf(t, 2, 2)
	mustIssue(t, a, name(0, 0, 0))
	mustNotIssue(t, b, 0, api.ErrState)
	mustList(t, b)
	mustReserve(t, b, 0, 0, 1)
	mustIssue(t, b, name(0, 0, 0))
	mustFree(t, a, name(0, 0, 0), api.OK)
	mustLapse(t, a, 4)
	mustList(t, b, name(0, 0, 0))
	mustGen(t, b, 0, 1, 0)
	mustList(t, a)
}

// TestWhatWasAnsweredIsTheAskers: whoever changes it changes nothing of the pool, nor of another answer.
func TestWhatWasAnsweredIsTheAskers(t *testing.T) {
	p := ready(t, 2, 2)
	mustIssue(t, p, name(0, 0, 0))
	mustIssue(t, p, name(1, 0, 0))
	one, two := p.List(), p.List()
	one[0], one[1] = name(9, 9, 9), name(8, 8, 8)
	_ = append(one[:0], name(7, 7, 7), name(6, 6, 6))
	_ = append(one, name(5, 5, 5))
	if !slices.Equal(two, []api.ID{name(0, 0, 0), name(1, 0, 0)}) {
		t.Error(two)
	}
	mustList(t, p, two...)
	id, _ := p.Issue(0)
	id.Gen, id.Index = 5, 0
	mustList(t, p, name(0, 0, 0), name(0, 1, 0), name(1, 0, 0))
	mustFree(t, p, name(0, 0, 0), api.OK)
	if !slices.Equal(two, []api.ID{name(0, 0, 0), name(1, 0, 0)}) {
		t.Error(two)
	}
}

// TestShortScripts: all of four calls, on a pool of two indices of which one has its first generations set aside.
func TestShortScripts(t *testing.T) {
	calls := []call{{'r', name(0, 0, 0)}, {'r', name(0, 1, 0)}, {'i', name(0, 0, 0)}, {'l', api.ID{}}}
	for i := 0; i < 2; i++ {
		for _, g := range []int{0, 1, aside - 1, aside} {
			calls = append(calls, call{'t', name(0, i, g)}, call{'f', name(0, i, g)})
		}
	}
	const length = 4
	count := 1
	for range length {
		count *= len(calls)
	}
	for n := 0; n < count && !t.Failed(); n++ {
		p, m := poolOf(t, 1, 2), newModel(1, 2)
		both(t, p, m, call{'r', name(0, 0, 0)})
		var script []call
		for left := n; len(script) < length; left /= len(calls) {
			c := calls[left%len(calls)]
			script = append(script, c)
			both(t, p, m, c)
		}
		mustBeAlike(t, p, m)
		mustEndAlike(t, p, m)
		if t.Failed() {
			t.Errorf("behind %c", script)
		}
	}
}

// anyCall is one of a long script: mostly of what is there, and of generations about those that count.
func anyCall(next func(int) int, m *model) call {
	k, i := next(m.Shards), next(m.Ids)
	if next(30) == 0 {
		k = []int{-1, m.Shards, math.MinInt, math.MaxInt, 1 << 60}[next(5)]
	}
	if next(30) == 0 {
		i = []int{-1, m.Ids, math.MinInt, math.MaxInt, 1 << 60}[next(5)]
	}
	s := m.Slots[[2]int{k, i}]
	if s == nil {
		s = &slot{}
	}
	near := around(s)
	id := name(k, i, near[next(len(near))])
	if next(2) == 0 {
		id.Gen = s.Gen
	}
	return call{[]rune("rriiiitttfffffffl")[next(17)], id}
}

// mustGoAlike has a long script happen to a pool and its model.
func mustGoAlike(t *testing.T, next func(int) int, p *ids.Pool, m *model, length int) {
	t.Helper()
	for n := 0; n < length && !t.Failed(); n++ {
		both(t, p, m, anyCall(next, m))
		if n%7 == 0 {
			mustBeAlike(t, p, m)
		}
	}
	mustBeAlike(t, p, m)
	mustEndAlike(t, p, m)
}

func TestLongScripts(t *testing.T) {
	next := chance()
	for _, c := range [][2]int{{1, 1}, {1, 2}, {1, 3}, {2, 1}, {2, 2}, {3, 4}, {4, 5}, {1, 16}, {16, 1}, {16, 16}} {
		for range 20 {
			mustGoAlike(t, next, poolOf(t, c[0], c[1]), newModel(c[0], c[1]), 300)
		}
	}
}

// TestLongScriptsNearTheEnd: of indices all of whose generations but a few were given, or lapsed.
func TestLongScriptsNearTheEnd(t *testing.T) {
	next := chance()
	for range 12 {
		p, m := poolOf(t, 2, 3), newModel(2, 3)
		for k := 0; k < 2; k++ {
			for i := 0; i < 3; i++ {
				often, gen := steps-next(3), maxGen-1-next(20)
				mustReserve(t, p, k, i, often)
				mustReserve(t, m, k, i, often)
				both(t, p, m, call{'t', name(k, i, gen)})
				both(t, p, m, call{'f', name(k, i, gen)})
			}
		}
		mustGoAlike(t, next, p, m, 300)
	}
}

// TestTheSameAgain: the same calls on two pools, turn by turn, are answered the same.
func TestTheSameAgain(t *testing.T) {
	next := chance()
	a, b, m := poolOf(t, 3, 3), poolOf(t, 3, 3), newModel(3, 3)
	for range 3000 {
		c := anyCall(next, m)
		do(m, c)
		if x, y := do(a, c), do(b, c); x != y {
			t.Fatalf("%c %v: %+v, and %+v", c.what, c.id, x, y)
		}
	}
	mustBeAlike(t, a, m)
	mustBeAlike(t, b, m)
}

// 8.5

// TestAllNamesOfAnIndex: each generation is given once, rising, and just so many Reserves are taken.
func TestAllNamesOfAnIndex(t *testing.T) {
	p := poolOf(t, 1, 1)
	reserved := 0
	for g := 0; g < maxGen; g++ {
		if _, ok, _ := p.Head(0); !ok {
			mustReserve(t, p, 0, 0, 1)
			reserved++
		}
		id, e := p.Issue(0)
		if id != name(0, 0, g) || e != api.OK || p.Free(id) != api.OK {
			t.Fatalf("%v, %d; want %v", id, e, name(0, 0, g))
		}
	}
	if reserved != steps {
		t.Errorf("%d Reserves, want %d", reserved, steps)
	}
	mustBeWorn(t, p)
}

// given is the names that a pool gave, by Issue or Take.
type given map[api.ID]int

// step has a call happen to a pool, which must give no name that it gave.
func (l given) step(t *testing.T, p pool, c call) answer {
	t.Helper()
	got := do(p, c)
	id := got.id
	if c.what == 't' {
		id = c.id
	}
	if got.e == api.OK && (c.what == 'i' || c.what == 't') {
		if l[id]++; l[id] > 1 {
			t.Fatalf("%v was given twice", id)
		}
	}
	return got
}

func TestNoNameIsGivenTwice(t *testing.T) {
	next := chance()
	for _, c := range [][2]int{{1, 1}, {1, 3}, {3, 2}, {16, 16}} {
		p, m, seen := poolOf(t, c[0], c[1]), newModel(c[0], c[1]), given{}
		for range 20000 {
			c := anyCall(next, m)
			seen.step(t, p, c)
			do(m, c)
		}
		for _, id := range p.List() {
			if seen[id] != 1 {
				t.Errorf("%v is somebody's, and was never given", id)
			}
		}
	}
}

// TestASecondPool: it is told of all that the first one set aside, and of some of the names, in order, and lets the others lapse; it gives none then that the first one gave.
func TestASecondPool(t *testing.T) {
	next := chance()
	for round := range 300 {
		shards, n := 1+next(3), 1+next(4)
		first, second, seen := poolOf(t, shards, n), poolOf(t, shards, n), given{}
		tells := map[api.ID]int{} // 1: of this name the second one is told
		few := 1 + round%5
		for range 40 + next(200) {
			k, i := next(shards), next(n)
			switch next(4) {
			case 0:
				both := call{'r', name(k, i, 0)}
				do(first, both)
				do(second, both)
			case 1, 2:
				if got := seen.step(t, first, call{'i', name(k, 0, 0)}); got.e == api.OK && next(few) == 0 {
					tells[got.id] = 1
					mustTake(t, second, got.id, api.OK)
				}
			case 3:
				if l := first.List(); len(l) > 0 {
					id := l[next(len(l))]
					mustFree(t, first, id, api.OK)
					if tells[id] == 1 {
						mustFree(t, second, id, api.OK)
					}
				}
			}
		}
		second.Lapse()
		for range 300 {
			k := next(shards)
			if i, ok, e := second.Head(k); e == api.OK && !ok {
				mustReserve(t, second, k, i, 1)
			}
			seen.step(t, second, call{'i', name(k, 0, 0)})
			if l := second.List(); len(l) > 0 && next(2) == 0 {
				mustFree(t, second, l[next(len(l))], api.OK)
			}
		}
	}
}
