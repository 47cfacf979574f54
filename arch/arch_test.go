package arch_test

import (
	"slices"
	"testing"

	"hedgerow/api"
	"hedgerow/arch"
	"hedgerow/sample"
)

// a, b, c and d are names; each differs in another part from the first one.
func a() api.ID { return name(0, 0, 0) }
func b() api.ID { return name(0, 0, 1) }
func c() api.ID { return name(0, 1, 0) }
func d() api.ID { return name(1, 0, 0) }

// abcd is all of them, and one that is nobody's.
func abcd() []api.ID { return []api.ID{a(), b(), c(), d(), name(1, 1, 1)} }

// row is entities of one mask, by the first n of many names.
func row(mask, n int) []api.Bundle {
	var l []api.Bundle
	for i := 0; i < n; i++ {
		l = append(l, of(name(i%3, i/3%5, i/15), mask, i%100))
	}
	return l
}

// 11.1

func TestNewHasNoEntities(t *testing.T) {
	s := arch.New()
	if s == nil {
		t.Fatal("New: nil")
	}
	mustBeAlike(t, s, newModel(), append(badNames(), abcd()...)...)
	mustRemove(t, s, a(), false)
}

func TestPutLaysTheLastRow(t *testing.T) {
	for _, mask := range masks() {
		s, m := arch.New(), newModel()
		for i, x := range row(mask, 20) {
			mustDo(t, call{put, x}, s, m)
			if at, there := s.Row(x.ID); at != i || !there {
				t.Errorf("Row(%v): %d, %v; want %d", x.ID, at, there, i)
			}
			mustBeAlike(t, s, m, abcd()...)
		}
	}
}

func TestPutOfAllMasks(t *testing.T) {
	s, m := arch.New(), newModel()
	for i := 0; i < 3; i++ {
		for _, mask := range masks() {
			mustDo(t, call{put, of(name(i, mask%16, mask), mask, i)}, s, m)
			mustBeAlike(t, s, m, abcd()...)
		}
	}
	if n := s.Len(); n != 48 {
		t.Errorf("Len: %d, want 48", n)
	}
}

func TestPutOfNumbersAtTheirEnds(t *testing.T) {
	for _, id := range []api.ID{a(), name(15, 15, maxGen-1), name(15, 0, 0), name(0, 15, 0), name(0, 0, maxGen-1)} {
		for _, x := range edges(id) {
			s, m := both(t, x)
			if got, there := s.Get(id); got != x || !there {
				t.Errorf("Get: %+v, %v; want %+v", got, there, x)
			}
			mustBeAlike(t, s, m, abcd()...)
		}
	}
}

func TestPutOfWhatMayNotBe(t *testing.T) {
	s, m := both(t, of(a(), pos, 1), of(b(), all, 2))
	for _, id := range []api.ID{a(), b(), d()} { // ErrArg is ahead of ErrThere
		for _, x := range badEntities(id) {
			if mayBe(x) {
				t.Fatalf("%+v may be", x)
			}
			must(t, "Put", s.Put(x), api.ErrArg)
			must(t, "Put", arch.New().Put(x), api.ErrArg)
			mustTell(t, s, m, x.ID)
		}
	}
	mustBeAlike(t, s, m, append(badNames(), abcd()...)...)
}

func TestPutOfOneThatIsThere(t *testing.T) {
	for _, mask := range masks() {
		s, m := both(t, of(c(), pos, 4), of(a(), pos|life, 3), of(b(), pos, 5))
		for _, n := range []int{3, 9} {
			for _, id := range []api.ID{a(), b(), c()} {
				must(t, "Put", s.Put(of(id, mask, n)), api.ErrThere)
			}
		}
		mustBeAlike(t, s, m, abcd()...)
		must(t, "Put", s.Put(of(d(), mask, 3)), api.OK)
	}
}

// TestNamesThatDifferInOnePart: they are others.
func TestNamesThatDifferInOnePart(t *testing.T) {
	s, m := both(t)
	for _, p := range nameParts() {
		for _, n := range []int{1, 2, 8, 14, 15, p.Most - 1, p.Most} {
			id := a()
			*p.In(&id) = n
			mustDo(t, call{put, of(id, pos, n%100)}, s, m)
		}
	}
	mustDo(t, call{put, of(a(), pos, 50)}, s, m)
	mustBeAlike(t, s, m, abcd()...)
	for n := s.Len(); n > 0; n-- {
		names := s.Tables()[0].IDs
		gone := names[len(names)/2]
		mustDo(t, call{kind: remove, b: api.Bundle{ID: gone}}, s, m)
		mustBeAlike(t, s, m, gone)
	}
}

// TestWriteInItsRow: of each row of a table.
func TestWriteInItsRow(t *testing.T) {
	for _, mask := range masks() {
		for n := 1; n <= 5; n++ {
			for i, x := range row(mask, n) {
				s, m := both(t, append(row(mask, n), of(name(9, 9, 9), all-mask+pos, 3))...)
				for _, to := range []api.Bundle{of(x.ID, mask, 77), x, x} {
					mustDo(t, call{write, to}, s, m)
					if got, there := s.Get(x.ID); got != to || !there {
						t.Errorf("Get: %+v, %v; want %+v", got, there, to)
					}
					if at, there := s.Row(x.ID); at != i || !there {
						t.Errorf("Row: %d, %v; want %d", at, there, i)
					}
					mustBeAlike(t, s, m, abcd()...)
				}
			}
		}
	}
}

// TestWriteIntoAnotherTable: from each row of one into others that have rows, or have none.
func TestWriteIntoAnotherTable(t *testing.T) {
	for _, from := range masks() {
		for _, into := range masks() {
			for n := 0; n < 9; n++ {
				x := row(from, 3)[n%3]
				l := row(from, 3)
				for i := 0; i < n/3; i++ {
					l = append(l, of(name(9, i, 9), into, i))
				}
				s, m := both(t, l...)
				mustDo(t, call{write, of(x.ID, into, 77)}, s, m)
				mustBeAlike(t, s, m, abcd()...)
			}
		}
	}
}

func TestWriteThereAndBack(t *testing.T) {
	s, m := both(t, of(a(), pos, 1), of(b(), pos, 2), of(c(), pos, 3))
	mustDo(t, call{write, of(a(), all, 4)}, s, m)
	mustHave(t, s, table(pos, c(), b()), table(all, a()))
	mustDo(t, call{write, of(a(), pos, 5)}, s, m)
	mustHave(t, s, table(pos, c(), b(), a()))
	mustDo(t, call{write, of(a(), pos|vel, 6)}, s, m) // it was the last one: no other one moves
	mustHave(t, s, table(pos, c(), b()), table(pos|vel, a()))
	mustDo(t, call{write, of(b(), pos|vel, 7)}, s, m)
	mustDo(t, call{write, of(c(), pos|vel, 8)}, s, m)
	mustHave(t, s, table(pos|vel, a(), b(), c()))
	mustBeAlike(t, s, m, abcd()...)
}

func TestWriteOfWhatMayNotBe(t *testing.T) {
	s, m := both(t, of(a(), pos, 1), of(b(), all, 2))
	for _, id := range []api.ID{a(), b(), d()} { // ErrArg is ahead of ErrNone
		for _, x := range badEntities(id) {
			must(t, "Write", s.Write(x), api.ErrArg)
			must(t, "Write", arch.New().Write(x), api.ErrArg)
			mustTell(t, s, m, x.ID)
		}
	}
	mustBeAlike(t, s, m, append(badNames(), abcd()...)...)
}

func TestWriteOfOneThatIsNotThere(t *testing.T) {
	s, m := both(t, of(a(), pos, 1), of(b(), all, 2))
	for _, mask := range masks() {
		for _, id := range []api.ID{c(), d(), name(0, 0, 2), name(15, 15, maxGen-1)} {
			must(t, "Write", s.Write(of(id, mask, 3)), api.ErrNone)
			must(t, "Write", arch.New().Write(of(id, mask, 3)), api.ErrNone)
			mustTell(t, s, m, id)
		}
	}
	mustRemove(t, s, a(), true)
	m.Remove(a())
	must(t, "Write behind Remove", s.Write(of(a(), pos, 1)), api.ErrNone)
	mustBeAlike(t, s, m, abcd()...)
}

// TestRemove: of each row of a table; others stay as they are.
func TestRemove(t *testing.T) {
	for _, mask := range masks() {
		for n := 1; n <= 6; n++ {
			for _, x := range row(mask, n) {
				s, m := both(t, append(row(mask, n), of(name(9, 9, 8), all-mask+pos, 3), of(name(9, 9, 9), all-mask+pos, 4))...)
				mustRemove(t, s, x.ID, true)
				m.Remove(x.ID)
				mustBeAlike(t, s, m, x.ID)
				mustRemove(t, s, x.ID, false)
				mustBeAlike(t, s, m, x.ID)
			}
		}
	}
}

func TestRemoveOfNobody(t *testing.T) {
	s, m := both(t, of(name(1, 2, 3), pos, 1), of(b(), all, 2))
	for _, id := range append(badNames(), a(), c(), d(), name(1, 2, 2), name(1, 2, 4), name(1, 1, 3), name(2, 2, 3), name(3, 2, 1), name(2, 1, 3), name(1, 3, 2)) {
		mustRemove(t, s, id, false)
		mustTell(t, s, m, id)
	}
	mustBeAlike(t, s, m, abcd()...)
}

// TestPutBehindRemove: who comes again is the last one, and has nothing of what it was.
func TestPutBehindRemove(t *testing.T) {
	s, m := both(t, of(a(), all, 1), of(b(), all, 2), of(c(), all, 3))
	for _, x := range []api.Bundle{of(a(), all, 9), of(a(), pos, 8), of(a(), pos|left, 7)} {
		mustRemove(t, s, a(), true)
		m.Remove(a())
		mustBeAlike(t, s, m, abcd()...)
		mustDo(t, call{put, x}, s, m)
		mustBeAlike(t, s, m, abcd()...)
	}
}

// TestToTheLastOne: tables that lose all rows are as if they had had none.
func TestToTheLastOne(t *testing.T) {
	for _, from := range []int{0, 1} { // the first row, or the last one
		s, m := both(t, append(row(pos, 10), of(name(9, 9, 9), all, 3))...)
		for n := 11; n > 0; n-- {
			names := s.Tables()[0].IDs
			id := names[from*(len(names)-1)]
			mustRemove(t, s, id, true)
			m.Remove(id)
			mustBeAlike(t, s, m, id)
		}
		mustHave(t, s)
		for _, x := range row(pos, 10) {
			mustDo(t, call{put, x}, s, m)
		}
		mustBeAlike(t, s, m, abcd()...)
	}
}

// 11.2

func TestGetAndRowOfNobody(t *testing.T) {
	s, m := both(t, of(name(1, 2, 3), all, 1), of(b(), all, 2), of(c(), pos, 2))
	for _, id := range append(badNames(), a(), d(), name(1, 2, 2), name(1, 3, 3), name(2, 2, 3), name(3, 2, 1)) {
		if x, there := s.Get(id); x != (api.Bundle{}) || there {
			t.Errorf("Get(%v): %+v, %v", id, x, there)
		}
		if at, there := s.Row(id); at != 0 || there {
			t.Errorf("Row(%v): %d, %v", id, at, there)
		}
	}
	mustBeAlike(t, s, m)
}

// TestMasksRise: whatever was put first.
func TestMasksRise(t *testing.T) {
	l := masks()
	slices.Reverse(l)
	s, m := both(t)
	for i, mask := range l {
		mustDo(t, call{put, of(name(0, 0, i), mask, i)}, s, m)
		mustDo(t, call{put, of(name(0, 1, i), mask, i)}, s, m)
	}
	tables := s.Tables()
	if len(tables) != len(l) {
		t.Fatalf("Tables: %v", tables)
	}
	for i, x := range tables {
		if x.Mask != masks()[i] || !slices.Equal(x.IDs, []api.ID{name(0, 0, len(l)-1-i), name(0, 1, len(l)-1-i)}) {
			t.Errorf("the table %d: %v", i, x)
		}
	}
	mustBeAlike(t, s, m)
}

// TestRowsDoNotRise: names stand as they were put, not by their order.
func TestRowsDoNotRise(t *testing.T) {
	s, _ := both(t, of(d(), pos, 1), of(b(), pos, 2), of(c(), pos, 3), of(a(), pos, 4))
	mustHave(t, s, table(pos, d(), b(), c(), a()))
	mustRemove(t, s, b(), true)
	mustHave(t, s, table(pos, d(), a(), c()))
}

// TestAllStops: behind as many as are wanted, none is yielded any more.
func TestAllStops(t *testing.T) {
	s, m := both(t, append(row(all, 4), of(name(9, 9, 7), pos, 1), of(name(9, 9, 8), pos, 2), of(name(9, 9, 9), pos|life, 3))...)
	whole := slices.Collect(m.All())
	for n := 1; n <= len(whole)+1; n++ {
		var l []api.Bundle
		s.All()(func(x api.Bundle) bool {
			l = append(l, x)
			return len(l) < n
		})
		if want := whole[:min(n, len(whole))]; !slices.Equal(l, want) {
			t.Errorf("the first %d: %+v, want %+v", n, l, want)
		}
	}
	mustBeAlike(t, s, m)
}

// TestAllGoneOverAgain: and while it is gone over already.
func TestAllGoneOverAgain(t *testing.T) {
	s, m := both(t, append(row(all, 3), of(name(9, 9, 7), pos, 1))...)
	whole := slices.Collect(m.All())
	seq := s.All()
	for range seq {
		break
	}
	at := 0
	for x := range seq {
		if at >= len(whole) || x != whole[at] {
			t.Errorf("the one at %d: %+v", at, x)
		}
		at++
		if l := slices.Collect(seq); !slices.Equal(l, whole) {
			t.Errorf("gone over between: %+v, want %+v", l, whole)
		}
		mustBeAlike(t, s, m) // it may be asked
	}
	if at != len(whole) {
		t.Errorf("%d were yielded, want %d", at, len(whole))
	}
}

func TestAllOfNoFunction(t *testing.T) {
	s, m := both(t, row(all, 3)...)
	s.All()(nil)
	mustBeAlike(t, s, m)
}

// TestCopyGoesItsOwnWay: whichever of the two is changed, and by whatever call.
func TestCopyGoesItsOwnWay(t *testing.T) {
	changes := []call{
		{put, of(name(9, 9, 9), pos, 9)},
		{put, of(name(9, 9, 9), pos|life, 9)},
		{put, of(name(9, 9, 9), all, 9)},
		{write, of(a(), pos, 9)},
		{write, of(c(), pos|life, 9)},
		{write, of(a(), pos|life, 9)},
		{write, of(b(), all, 9)},
		{write, of(c(), pos, 9)},
		{remove, of(a(), pos, 0)},
		{remove, of(b(), pos, 0)},
		{remove, of(c(), pos, 0)},
	}
	for _, one := range changes {
		for _, other := range changes {
			s, m := both(t, of(a(), pos, 1), of(b(), pos, 2), of(c(), pos|life, 3), of(d(), pos, 4), of(name(9, 9, 8), pos, 5))
			copied, want := s.Copy(), m.Copy()
			mustBeAlike(t, copied, want, abcd()...)
			mustDo(t, one, s, m)
			mustBeAlike(t, copied, want, abcd()...)
			mustDo(t, other, copied, want)
			mustBeAlike(t, copied, want, append(abcd(), name(9, 9, 9))...)
			mustBeAlike(t, s, m, append(abcd(), name(9, 9, 9))...)
		}
	}
}

// TestCopyOfRowsThatMoved: rows are as they stand, not as they were put.
func TestCopyOfRowsThatMoved(t *testing.T) {
	s, m := both(t, row(pos, 9)...)
	for _, i := range []int{4, 0} {
		id := row(pos, 9)[i].ID
		mustRemove(t, s, id, true)
		m.Remove(id)
	}
	mustDo(t, call{write, of(row(pos, 9)[2].ID, all, 5)}, s, m)
	copied := s.Copy().Copy()
	mustBeAlike(t, copied, m, abcd()...)
	for n := copied.Len(); n > 0; n-- {
		mustRemove(t, copied, copied.Tables()[0].IDs[0], true)
	}
	mustHave(t, copied)
	mustBeAlike(t, s, m, abcd()...)
}

func TestCopyOfAStoreWithoutEntities(t *testing.T) {
	s := arch.New()
	for _, copied := range []*arch.Store{s.Copy(), s.Copy().Copy(), (*arch.Store)(nil).Copy(), (*arch.Store)(nil).Copy()} {
		if copied == nil {
			t.Fatal("Copy: nil")
		}
		m := newModel()
		mustBeAlike(t, copied, m, abcd()...)
		mustDo(t, call{put, of(a(), pos, 1)}, copied, m)
		mustDo(t, call{write, of(a(), all, 2)}, copied, m)
		mustBeAlike(t, copied, m, abcd()...)
	}
	mustBeAlike(t, s, newModel(), abcd()...)
}

func TestOfANilStore(t *testing.T) {
	var s *arch.Store
	for _, x := range append(badEntities(a()), of(a(), pos, 1), of(b(), all, 2)) {
		must(t, "Put", s.Put(x), api.ErrArg)
		must(t, "Write", s.Write(x), api.ErrArg)
		mustRemove(t, s, x.ID, false)
	}
	mustBeAlike(t, s, newModel(), append(badNames(), abcd()...)...)
	if s.All() == nil {
		t.Error("All: nil")
	}
	s.All()(nil)
}

// TestAStoreThatNewDidNotMake: the zero one is one without entities.
func TestAStoreThatNewDidNotMake(t *testing.T) {
	for _, first := range []call{{put, of(a(), pos, 1)}, {write, of(a(), pos, 1)}, {remove, of(a(), pos, 1)}} {
		s, m := new(arch.Store), newModel()
		mustBeAlike(t, s, m, abcd()...)
		mustBeAlike(t, s.Copy(), m, abcd()...)
		mustDo(t, first, s, m)
		mustBeAlike(t, s, m, abcd()...)
		mustDo(t, call{put, of(b(), all, 2)}, s, m)
		mustBeAlike(t, s, m, abcd()...)
	}
}

// 11.3

// mustMoveOne says so if another store has more than one entity in another row of the same table, but for one that was changed.
func mustMoveOne(t *testing.T, ahead, behind store, changed api.ID) {
	t.Helper()
	moved := 0
	for x := range ahead.All() {
		if x.ID == changed {
			continue
		}
		if got, there := behind.Get(x.ID); got != x || !there {
			t.Errorf("Get(%v): %+v, %v; want %+v, as it was", x.ID, got, there, x)
		}
		was, _ := ahead.Row(x.ID)
		if is, _ := behind.Row(x.ID); is != was {
			moved++
		}
	}
	if moved > 1 {
		t.Errorf("behind a call for %v %d others stand elsewhere", changed, moved)
	}
}

// mustStandOnce says so if an entity does not stand in just one row of one table, that of its mask.
func mustStandOnce(t *testing.T, s store) {
	t.Helper()
	stands := map[api.ID]int{}
	for _, x := range s.Tables() {
		for i, id := range x.IDs {
			stands[id]++
			b, there := s.Get(id)
			at, _ := s.Row(id)
			if b.ID != id || b.Mask != x.Mask || at != i || !there || stands[id] > 1 {
				t.Errorf("%v in the table %d, row %d: Get %+v, %v, Row %d, %d times", id, x.Mask, i, b, there, at, stands[id])
			}
		}
	}
	if len(stands) != s.Len() {
		t.Errorf("%d stand in rows, Len %d", len(stands), s.Len())
	}
}

func TestAtMostOneOtherRowMoves(t *testing.T) {
	seed := sample.Chance(5)
	s := arch.New()
	for range 3000 {
		x := anyEntity(&seed, 40)
		ahead := s.Copy()
		call{[...]int{put, put, write, remove}[seed.Below(4)], x}.do(s)
		mustMoveOne(t, ahead, s, x.ID)
		mustStandOnce(t, s)
	}
}

// Scripts

// everyCall is those of a few names and two masks.
func everyCall() []call {
	var l []call
	for i, id := range []api.ID{a(), b(), c()} {
		l = append(l, call{kind: remove, b: api.Bundle{ID: id}})
		for _, mask := range []int{pos, pos | life} {
			l = append(l, call{put, of(id, mask, 10+i)}, call{write, of(id, mask, 20+i)})
		}
	}
	return l
}

// TestShortScripts: all of them, from stores of some kinds.
func TestShortScripts(t *testing.T) {
	begins := [][]api.Bundle{
		nil,
		{of(a(), pos, 1), of(b(), pos, 2), of(c(), pos, 3)},
		{of(a(), pos, 1), of(b(), pos|life, 2), of(c(), pos, 3)},
		{of(c(), pos|life, 1), of(d(), pos|life, 2), of(a(), pos|life, 3)},
	}
	for _, begin := range begins {
		for _, first := range everyCall() {
			for _, second := range everyCall() {
				for _, third := range everyCall() {
					s, m := both(t, begin...)
					for _, x := range []call{first, second, third} {
						mustDo(t, x, s, m)
					}
					mustBeAlike(t, s, m, abcd()...)
					if t.Failed() {
						t.Fatalf("behind %+v, %+v, %+v, %+v", begin, first, second, third)
					}
				}
			}
		}
	}
}

// anyEntity is one of some names and all masks; one of twelve may not be.
func anyEntity(seed *sample.Chance, names int) api.Bundle {
	i := seed.Below(names)
	b := of(name(i%2, i/2%3, i/6), masks()[seed.Below(16)], seed.Below(100))
	switch seed.Below(24) {
	case 0:
		l := badEntities(b.ID)
		return l[seed.Below(len(l))]
	case 1:
		b.Mask--
	}
	return b
}

// pair is a store, and a model of it.
type pair struct {
	s *arch.Store
	m *model
}

// TestLongScripts: of several stores, of which each may be another one's copy.
func TestLongScripts(t *testing.T) {
	for _, names := range []int{3, 12, 60} {
		seed := sample.Chance(names)
		pairs := []pair{{arch.New(), newModel()}, {arch.New(), newModel()}, {arch.New(), newModel()}}
		for range 2500 {
			p := pairs[seed.Below(len(pairs))]
			switch kind := seed.Below(32); {
			case kind == 0:
				pairs[seed.Below(len(pairs))] = pair{p.s.Copy(), p.m.Copy()}
			case kind < 14:
				mustDo(t, call{put, anyEntity(&seed, names)}, p.s, p.m)
			case kind < 24:
				mustDo(t, call{write, anyEntity(&seed, names)}, p.s, p.m)
			default:
				mustDo(t, call{remove, anyEntity(&seed, names)}, p.s, p.m)
			}
			p = pairs[seed.Below(len(pairs))]
			mustBeAlike(t, p.s, p.m, anyEntity(&seed, names).ID)
		}
	}
}

// TestManyEntities: in one table, taken out from the front, from the end and from between.
func TestManyEntities(t *testing.T) {
	seed := sample.Chance(7)
	s, m := both(t, row(pos|vel, 2000)...)
	mustBeAlike(t, s, m, abcd()...)
	for n := s.Len(); n > 0; n-- {
		names := s.Tables()[0].IDs
		id := names[[...]int{0, len(names) - 1, seed.Below(len(names))}[n%3]]
		mustDo(t, call{kind: remove, b: api.Bundle{ID: id}}, s, m)
		if n%200 == 1 {
			mustBeAlike(t, s, m, id)
		}
	}
	mustHave(t, s)
}

// Rules

// TestWhatIsRefusedChangesNothing: nothing that a later call could tell, R3.
func TestWhatIsRefusedChangesNothing(t *testing.T) {
	l := []api.Bundle{of(a(), pos, 1), of(b(), pos, 2), of(c(), all, 3)}
	s, m := both(t, l...)
	for _, id := range []api.ID{a(), b(), c(), d()} {
		for _, x := range badEntities(id) {
			s.Put(x)
			s.Write(x)
		}
	}
	for _, id := range badNames() {
		s.Remove(id)
	}
	for _, mask := range masks() {
		s.Put(of(a(), mask, 9))
		s.Put(of(c(), mask, 9))
		s.Write(of(d(), mask, 9))
		s.Remove(d())
	}
	mustBeAlike(t, s, m, append(badNames(), abcd()...)...)
	for _, x := range []call{{write, of(a(), all, 4)}, {put, of(d(), pos, 5)}, {remove, of(c(), all, 0)}, {write, of(d(), all, 6)}} {
		mustDo(t, x, s, m)
		mustBeAlike(t, s, m, abcd()...)
	}
}

// TestWhatIsAnsweredIsTheAskersOwn: R4.
func TestWhatIsAnsweredIsTheAskersOwn(t *testing.T) {
	s, m := both(t, of(a(), pos, 1), of(b(), pos, 2), of(c(), pos, 3), of(d(), all, 4), of(name(9, 9, 9), pos|left, 5))
	mustRemove(t, s, b(), true)
	m.Remove(b())
	one, other := s.Tables(), s.Tables()
	for i := range one {
		for j := range one[i].IDs {
			one[i].IDs[j] = name(7, 7, 7)
		}
		one[i].IDs = append(one[i].IDs, name(8, 8, 8), name(8, 8, 8))
		one[i].Mask = 3
	}
	if !sameTables(other, m.Tables()) {
		t.Errorf("the other answer of Tables: %v, want %v", other, m.Tables())
	}
	mustBeAlike(t, s, m, abcd()...)
	for i := range other { // no two lists of an answer have room in common
		other[i].IDs = append(other[i].IDs, name(8, 8, 8))
		for _, x := range other[i+1:] {
			if slices.Contains(x.IDs, name(8, 8, 8)) {
				t.Errorf("the tables of one answer share memory: %v", other)
			}
		}
	}
	mustDo(t, call{put, of(b(), pos, 6)}, s, m)
	mustBeAlike(t, s, m, abcd()...)
}

// TestWhatWasAnsweredStays: whatever comes of the store.
func TestWhatWasAnsweredStays(t *testing.T) {
	s, m := both(t, of(a(), pos, 1), of(b(), pos, 2), of(c(), pos, 3), of(d(), all, 4))
	was, want := s.Tables(), m.Tables()
	for _, x := range []call{{write, of(a(), pos, 9)}, {remove, of(b(), pos, 0)}, {write, of(d(), pos, 8)}, {put, of(b(), all, 7)}, {remove, of(a(), pos, 0)}} {
		x.do(s)
	}
	if !sameTables(was, want) {
		t.Errorf("Tables became %v, was %v", was, want)
	}
}

// TestTheSameAgain: R5.
func TestTheSameAgain(t *testing.T) {
	first := arch.New()
	for n := range 20 {
		seed := sample.Chance(3)
		s := arch.New()
		for range 300 {
			x := anyEntity(&seed, 30)
			call{[...]int{put, put, write, remove}[seed.Below(4)], x}.do(s)
		}
		if n == 0 {
			first = s
		}
		mustBeAlike(t, s, first, abcd()...)
		mustBeAlike(t, s.Copy(), first, abcd()...)
	}
}

func TestStoresAreApart(t *testing.T) {
	s, other := arch.New(), arch.New()
	must(t, "Put", s.Put(of(a(), pos, 1)), api.OK)
	mustHave(t, other)
	must(t, "Put", other.Put(of(a(), all, 2)), api.OK)
	mustRemove(t, s, a(), true)
	mustHave(t, other, table(all, a()))
	mustHave(t, s)
}

// TestExample: the chapter's.
func TestExample(t *testing.T) {
	s := arch.New()
	for i, id := range []api.ID{a(), b(), c()} {
		must(t, "Put", s.Put(api.Bundle{ID: id, Mask: 1, X: i}), api.OK)
	}
	mustRemove(t, s, a(), true)
	mustHave(t, s, table(1, c(), b()))
	must(t, "Write", s.Write(api.Bundle{ID: c(), Mask: 5, HP: 1}), api.OK)
	mustHave(t, s, table(1, b()), table(5, c()))
}
