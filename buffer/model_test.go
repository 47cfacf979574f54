package buffer_test

import (
	"slices"
	"testing"

	"hedgerow/api"
	"hedgerow/arch"
	"hedgerow/buffer"
	"hedgerow/sample"
)

// What the tests of several layers say of entities.
var (
	name, of, with       = sample.Name, sample.Of, sample.With
	mayBe, over, less    = sample.MayBe, sample.Over, sample.Less
	numbers, nameParts   = sample.Numbers, sample.Parts
	oddNumbers, badNames = sample.OddNumbers, sample.BadNames
	badNumbers           = sample.BadNumbers
)

// The bits of a Mask, and all of them.
const (
	pos, vel, life, power, left = 1, 2, 4, 8, 16
	all                         = 31
)

// The kinds of deeds.
const (
	put, remove, set, drop = 1, 2, 3, 4
)

// The errors that there are here.
const (
	ok, errArg, errNone, errThere = api.Errno(0), api.Errno(1), api.Errno(6), api.Errno(7)
)

const (
	far    = 1 << 30 // the greatest fixed number
	maxGen = 1 << 20
)

// masks is all those of entities that may be, rising.
func masks() []int {
	var l []int
	for mask := pos; mask <= all; mask += 2 {
		l = append(l, mask)
	}
	return l
}

// model is a store by the words of chapter 11: the rows of the tables, by their masks.
type model struct{ rows [all + 1][]api.Bundle }

// at is where an entity stands.
func (m *model) at(id api.ID) (mask, row int, there bool) {
	for mask, rows := range m.rows {
		for i, b := range rows {
			if b.ID == id {
				return mask, i, true
			}
		}
	}
	return 0, 0, false
}

func (m *model) put(b api.Bundle) api.Errno {
	if !mayBe(b) {
		return errArg
	}
	if _, _, there := m.at(b.ID); there {
		return errThere
	}
	m.rows[b.Mask] = append(m.rows[b.Mask], b)
	return ok
}

// write has an entity that is there be another one.
func (m *model) write(b api.Bundle) api.Errno {
	if !mayBe(b) {
		return errArg
	}
	if mask, row, _ := m.at(b.ID); mask == b.Mask {
		m.rows[mask][row] = b
		return ok
	}
	m.remove(b.ID)
	m.rows[b.Mask] = append(m.rows[b.Mask], b)
	return ok
}

func (m *model) remove(id api.ID) {
	mask, row, _ := m.at(id)
	rows := m.rows[mask]
	rows[row] = rows[len(rows)-1]
	m.rows[mask] = rows[:len(rows)-1]
}

// do is what the chapter says of a deed.
func (m *model) do(d api.Deed) api.Errno {
	if d.Kind < put || d.Kind > drop {
		return errArg
	}
	if d.Kind == put {
		return m.put(d.B)
	}
	mask, row, there := m.at(d.B.ID)
	if !there {
		return errNone
	}
	switch d.Kind {
	case set:
		return m.write(over(m.rows[mask][row], d.B))
	case drop:
		return m.write(less(m.rows[mask][row], d.Mask))
	}
	m.remove(d.B.ID)
	return ok
}

// doAll is what is said of deeds, one behind the other.
func (m *model) doAll(l []api.Deed) []api.Errno {
	var said []api.Errno
	for _, d := range l {
		said = append(said, m.do(d))
	}
	return said
}

// both makes a store, and a model of it, into which these are put.
func both(t *testing.T, l ...api.Bundle) (*arch.Store, *model) {
	t.Helper()
	s, m := arch.New(), new(model)
	for _, b := range l {
		must(t, "Put", s.Put(b), ok)
		must(t, "put", m.put(b), ok)
	}
	return s, m
}

// mustBeAlike says so if a store has not just what its model has, row by row.
func mustBeAlike(t *testing.T, s *arch.Store, m *model) {
	t.Helper()
	var want []api.Bundle
	for _, rows := range m.rows {
		want = append(want, rows...)
	}
	if got := slices.Collect(s.All()); !slices.Equal(got, want) || s.Len() != len(want) {
		t.Errorf("the store: %+v, want %+v", got, want)
	}
}

// must says so if an answer is another one.
func must(t *testing.T, what string, got, want api.Errno) {
	t.Helper()
	if got != want {
		t.Errorf("%s: %d, want %d", what, got, want)
	}
}

// mustDo does a deed with a store and with its model, and says so if what is said of it, or what is there then, differs.
func mustDo(t *testing.T, s *arch.Store, m *model, d api.Deed) {
	t.Helper()
	if got, want := buffer.Do(s, d), m.do(d); got != want {
		t.Errorf("Do(%+v): %d, want %d", d, got, want)
	}
	mustBeAlike(t, s, m)
}

// mustWait says so if others wait.
func mustWait(t *testing.T, b *buffer.Buffer, want ...api.Deed) {
	t.Helper()
	if got := b.List(); !slices.Equal(got, want) || b.Len() != len(want) {
		t.Errorf("List: %+v, Len: %d, want %+v", got, b.Len(), want)
	}
}

// mustSay says so if answers are others.
func mustSay(t *testing.T, what string, got []api.Errno, want ...api.Errno) {
	t.Helper()
	if !slices.Equal(got, want) {
		t.Errorf("%s: %d, want %d", what, got, want)
	}
}

// bufferOf is a buffer in which these wait.
func bufferOf(t *testing.T, l ...api.Deed) *buffer.Buffer {
	t.Helper()
	b := buffer.New()
	must(t, "Add", b.Add(l...), ok)
	return b
}

// anyDeed is one of any kind for one of some names: now and then one that may not be.
func anyDeed(seed *sample.Chance, names int) api.Deed {
	i := seed.Below(names)
	d := api.Deed{Kind: 1 + seed.Below(4), B: of(name(i%5, i/5%7, i/35), seed.Below(all+1), seed.Below(100))}
	if d.Kind == put {
		d.B = of(d.B.ID, d.B.Mask|pos, seed.Below(100))
	}
	if d.Kind == drop {
		d.Mask = seed.Below(all + 1)
	}
	switch odd := oddNumbers(); seed.Below(30) {
	case 0:
		d.Kind = odd[seed.Below(len(odd))]
	case 1:
		d.Mask = odd[seed.Below(len(odd))]
	case 2:
		d.B.Mask = odd[seed.Below(len(odd))]
	case 3:
		*numbers()[seed.Below(7)].In(&d.B) = odd[seed.Below(len(odd))]
	}
	return d
}
