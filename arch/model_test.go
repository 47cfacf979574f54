package arch_test

import (
	"iter"
	"math"
	"slices"
	"testing"

	"hedgerow/api"
	"hedgerow/arch"
	"hedgerow/sample"
)

// What the tests of several layers say of entities.
var (
	name, of, with            = sample.Name, sample.Of, sample.With
	mayBe, numbers, nameParts = sample.MayBe, sample.Numbers, sample.Parts
)

// The bits of a Mask, and all of them.
const (
	pos, vel, life, power, left = 1, 2, 4, 8, 16
	all                         = 31
)

const (
	far    = 1 << 30 // the greatest fixed number
	maxGen = 1 << 20
)

// has tells whether a mask, of negative ones and very large ones too, has a bit.
func has(mask, bit int) bool { return mask&bit != 0 }

// masks is all those of entities that may be, rising.
func masks() []int {
	var l []int
	for mask := 0; mask <= all; mask++ {
		if has(mask, pos) {
			l = append(l, mask)
		}
	}
	return l
}

// withName is an entity of another name.
func withName(b api.Bundle, id api.ID) api.Bundle {
	b.ID = id
	return b
}

// distant is numbers beyond all that may be; some of them are such as may be if bits of them are lost.
func distant() []int {
	l := []int{math.MinInt, math.MinInt + 1, math.MaxInt, math.MaxInt - 1}
	for _, bit := range []int{31, 32, 33, 40, 48, 56, 60, 61, 62} {
		l = append(l, 1<<bit, 1<<bit+1, 1<<bit-1, -1<<bit, -1<<bit+1, -1<<bit-1)
	}
	return l
}

// badNames is such as may not be.
func badNames() []api.ID {
	var l []api.ID
	for _, p := range nameParts() {
		for _, n := range append(distant(), -2, -1, p.Most+1, p.Most+2) {
			id := name(1, 2, 3)
			*p.In(&id) = n
			l = append(l, id)
		}
	}
	return l
}

// badEntities is such as may not be, of a name that may be but where it is the fault: each with one thing that is wrong.
func badEntities(id api.ID) []api.Bundle {
	l := []api.Bundle{{ID: id}}
	for _, mask := range []int{pos, pos | life, all &^ left, all} {
		for _, x := range numbers() {
			wrong := append(distant(), x.Least-1, x.Most+1)
			if !has(mask, x.Bit) {
				wrong = append(distant(), -1, 1, x.Most)
			}
			for _, n := range wrong {
				l = append(l, with(of(id, mask, 1), x.In, n))
			}
		}
		for _, id := range badNames() {
			l = append(l, of(id, mask, 1))
		}
	}
	for _, mask := range append(distant(), -32, -31, -16, -2, -1, 32, 33, 37, 48, 63, 64, 65, 95) {
		b := of(id, all&mask|pos, 1)
		b.Mask = mask
		l = append(l, b)
	}
	for mask := 0; mask <= all; mask += 2 { // without Pos
		l = append(l, of(id, mask, 1))
	}
	return l
}

// edges is entities of a name that may be, with one number at its least or its greatest, or all of them.
func edges(id api.ID) []api.Bundle {
	var l []api.Bundle
	for _, mask := range masks() {
		lowest, highest := of(id, mask, 0), of(id, mask, 0)
		for _, x := range numbers() {
			if has(mask, x.Bit) {
				l = append(l, with(of(id, mask, 0), x.In, x.Least), with(of(id, mask, 0), x.In, x.Most))
				*x.In(&lowest), *x.In(&highest) = x.Least, x.Most
			}
		}
		l = append(l, lowest, highest)
	}
	return l
}

// store is what a store, or a model of one, is asked.
type store interface {
	Put(b api.Bundle) api.Errno
	Write(b api.Bundle) api.Errno
	Remove(id api.ID) bool
	Get(id api.ID) (api.Bundle, bool)
	Row(id api.ID) (int, bool)
	Len() int
	Tables() []api.Table
	All() iter.Seq[api.Bundle]
}

// model is a store by the chapter's words: the rows of the tables, by their masks.
type model struct{ rows map[int][]api.Bundle }

func newModel() *model { return &model{map[int][]api.Bundle{}} }

// at is where an entity stands.
func (m *model) at(id api.ID) (mask, row int, there bool) {
	for mask, rows := range m.rows {
		for i, b := range rows {
			if b.ID.Shard == id.Shard && b.ID.Index == id.Index && b.ID.Gen == id.Gen {
				return mask, i, true
			}
		}
	}
	return 0, 0, false
}

func (m *model) Put(b api.Bundle) api.Errno {
	if !mayBe(b) {
		return api.ErrArg
	}
	if _, _, there := m.at(b.ID); there {
		return api.ErrThere
	}
	m.rows[b.Mask] = append(m.rows[b.Mask], b)
	return api.OK
}

func (m *model) Write(b api.Bundle) api.Errno {
	if !mayBe(b) {
		return api.ErrArg
	}
	mask, row, there := m.at(b.ID)
	switch {
	case !there:
		return api.ErrNone
	case mask == b.Mask:
		m.rows[mask][row] = b
	default:
		m.Remove(b.ID)
		m.rows[b.Mask] = append(m.rows[b.Mask], b)
	}
	return api.OK
}

func (m *model) Remove(id api.ID) bool {
	mask, row, there := m.at(id)
	if !there {
		return false
	}
	var rows []api.Bundle
	old := m.rows[mask]
	for i := 0; i < len(old)-1; i++ {
		if i == row {
			rows = append(rows, old[len(old)-1])
		} else {
			rows = append(rows, old[i])
		}
	}
	m.rows[mask] = rows
	return true
}

func (m *model) Get(id api.ID) (api.Bundle, bool) {
	mask, row, there := m.at(id)
	if !there {
		return api.Bundle{}, false
	}
	return m.rows[mask][row], true
}

func (m *model) Row(id api.ID) (int, bool) {
	_, row, there := m.at(id)
	return row, there
}

func (m *model) Len() int {
	n := 0
	for _, rows := range m.rows {
		n += len(rows)
	}
	return n
}

func (m *model) Tables() []api.Table {
	var l []api.Table
	for mask := 0; mask <= all; mask++ {
		var names []api.ID
		for _, b := range m.rows[mask] {
			names = append(names, b.ID)
		}
		if len(names) > 0 {
			l = append(l, api.Table{Mask: mask, IDs: names})
		}
	}
	return l
}

func (m *model) All() iter.Seq[api.Bundle] {
	var l []api.Bundle
	for mask := 0; mask <= all; mask++ {
		l = append(l, m.rows[mask]...)
	}
	return slices.Values(l)
}

func (m *model) Copy() *model {
	c := newModel()
	for mask, rows := range m.rows {
		c.rows[mask] = slices.Clone(rows)
	}
	return c
}

// sameTables tells whether two answers of Tables are the same.
func sameTables(a, b []api.Table) bool {
	return slices.EqualFunc(a, b, func(x, y api.Table) bool {
		return x.Mask == y.Mask && slices.Equal(x.IDs, y.IDs)
	})
}

// mustTell says so if a name's entity, or its row, is another one.
func mustTell(t *testing.T, s, want store, id api.ID) {
	t.Helper()
	b, there := s.Get(id)
	wantB, wantThere := want.Get(id)
	if b != wantB || there != wantThere {
		t.Errorf("Get(%v): %+v, %v; want %+v, %v", id, b, there, wantB, wantThere)
	}
	row, there := s.Row(id)
	wantRow, _ := want.Row(id)
	if row != wantRow || there != wantThere {
		t.Errorf("Row(%v): %d, %v; want %d, %v", id, row, there, wantRow, wantThere)
	}
}

// mustBeAlike says so if two stores differ in anything that they tell, of these names and of those of all that are there.
func mustBeAlike(t *testing.T, s, want store, names ...api.ID) {
	t.Helper()
	if n := want.Len(); s.Len() != n {
		t.Errorf("Len: %d, want %d", s.Len(), n)
	}
	if got, l := s.Tables(), want.Tables(); !sameTables(got, l) {
		t.Errorf("Tables: %v, want %v", got, l)
	}
	yielded := slices.Collect(s.All())
	if l := slices.Collect(want.All()); !slices.Equal(yielded, l) {
		t.Errorf("All: %+v, want %+v", yielded, l)
	}
	for _, b := range yielded {
		mustTell(t, s, want, b.ID)
	}
	for _, id := range names {
		mustTell(t, s, want, id)
	}
}

// must says so if an answer is another one.
func must(t *testing.T, what string, got, want api.Errno) {
	t.Helper()
	if got != want {
		t.Errorf("%s: %d, want %d", what, got, want)
	}
}

// mustRemove says so if Remove answers otherwise.
func mustRemove(t *testing.T, s store, id api.ID, want bool) {
	t.Helper()
	if s.Remove(id) != want {
		t.Errorf("Remove(%v): %v", id, !want)
	}
}

// mustHave says so if the tables are others, or entities stand elsewhere than these say.
func mustHave(t *testing.T, s *arch.Store, want ...api.Table) {
	t.Helper()
	if got := s.Tables(); !sameTables(got, want) {
		t.Errorf("Tables: %v, want %v", got, want)
	}
	n := 0
	for _, table := range want {
		n += len(table.IDs)
		for i, id := range table.IDs {
			if row, there := s.Row(id); row != i || !there {
				t.Errorf("Row(%v): %d, %v; want %d", id, row, there, i)
			}
			if b, there := s.Get(id); b.ID != id || b.Mask != table.Mask || !there {
				t.Errorf("Get(%v): %+v, %v; want one of the mask %d", id, b, there, table.Mask)
			}
		}
	}
	if s.Len() != n {
		t.Errorf("Len: %d, want %d", s.Len(), n)
	}
}

// table is what Tables tells of one.
func table(mask int, names ...api.ID) api.Table { return api.Table{Mask: mask, IDs: names} }

// both makes a store, and a model of it, into which these are put.
func both(t *testing.T, l ...api.Bundle) (*arch.Store, *model) {
	t.Helper()
	s, m := arch.New(), newModel()
	for _, b := range l {
		mustDo(t, call{put, b}, s, m)
	}
	return s, m
}

// The kinds of calls that change a store.
const (
	put = iota
	write
	remove
)

// call is one of these, with an entity, of which remove takes the name.
type call struct {
	kind int
	b    api.Bundle
}

// do does a call, and tells its answer as a number.
func (c call) do(s store) int {
	switch c.kind {
	case put:
		return int(s.Put(c.b))
	case write:
		return int(s.Write(c.b))
	}
	if s.Remove(c.b.ID) {
		return 1
	}
	return 0
}

// mustDo does a call with a store and with its model, and says so if they do not answer the same.
func mustDo(t *testing.T, c call, s, want store) {
	t.Helper()
	if got, n := c.do(s), c.do(want); got != n {
		t.Errorf("%s of %+v: %d, want %d", [...]string{"Put", "Write", "Remove"}[c.kind], c.b, got, n)
	}
}
