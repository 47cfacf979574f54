package buffer_test

import (
	"math"
	"slices"
	"testing"

	"hedgerow/api"
	"hedgerow/arch"
	"hedgerow/buffer"
)

// The bits of a Mask, and all of them.
const (
	pos, vel, life, power, left = 1, 2, 4, 8, 16
	all                         = 31
)

// The kinds of deeds.
const (
	put, remove, set, drop = 1, 2, 3, 4
)

// The errors that there are here.
const (
	ok, errArg, errNone, errThere = api.Errno(0), api.Errno(1), api.Errno(6), api.Errno(7)
)

const (
	far    = 1 << 30 // the greatest fixed number
	maxGen = 1 << 20
)

// name is one.
func name(shard, index, gen int) api.ID { return api.ID{Shard: shard, Index: index, Gen: gen} }

// number is one of an entity's by chapter 9: the bit of its component, and from where to where it is if that is there.
type number struct {
	bit, least, most int
	in               func(b *api.Bundle) *int
}

func numbers() []number {
	return []number{
		{pos, -far, far, func(b *api.Bundle) *int { return &b.X }},
		{pos, -far, far, func(b *api.Bundle) *int { return &b.Y }},
		{vel, -far, far, func(b *api.Bundle) *int { return &b.VX }},
		{vel, -far, far, func(b *api.Bundle) *int { return &b.VY }},
		{life, 1, 1 << 20, func(b *api.Bundle) *int { return &b.HP }},
		{power, 0, 1 << 10, func(b *api.Bundle) *int { return &b.Power }},
		{left, 1, 1 << 20, func(b *api.Bundle) *int { return &b.Left }},
	}
}

// part is one of a name's by chapter 9: it is from 0 to most.
type part struct {
	most int
	in   func(id *api.ID) *int
}

func nameParts() []part {
	return []part{
		{15, func(id *api.ID) *int { return &id.Shard }},
		{15, func(id *api.ID) *int { return &id.Index }},
		{maxGen - 1, func(id *api.ID) *int { return &id.Gen }},
	}
}

// mayBe is what chapter 9 says of an entity.
func mayBe(b api.Bundle) bool {
	for _, p := range nameParts() {
		if n := *p.in(&b.ID); n < 0 || n > p.most {
			return false
		}
	}
	for _, x := range numbers() {
		switch n := *x.in(&b); {
		case b.Mask&x.bit != 0 && (n < x.least || n > x.most), b.Mask&x.bit == 0 && n != 0:
			return false
		}
	}
	return b.Mask >= 0 && b.Mask <= all && b.Mask&pos != 0
}

// over is an entity over which the components of another one are put.
func over(b, c api.Bundle) api.Bundle {
	for _, x := range numbers() {
		if c.Mask&x.bit != 0 {
			*x.in(&b) = *x.in(&c)
		}
	}
	b.Mask |= c.Mask
	return b
}

// less is an entity from which the components of a mask are taken.
func less(b api.Bundle, mask int) api.Bundle {
	for _, x := range numbers() {
		if mask&x.bit != 0 {
			*x.in(&b) = 0
		}
	}
	b.Mask &= ^mask
	return b
}

// of is an entity that may be where the mask has Pos: of a name, with the components of a mask, and with other numbers for each n below 100.
func of(id api.ID, mask, n int) api.Bundle {
	b := api.Bundle{ID: id, Mask: mask}
	for i, x := range numbers() {
		if mask&x.bit != 0 {
			*x.in(&b) = 1 + n*7 + i
		}
	}
	return b
}

// with is an entity one number of which is another one.
func with(b api.Bundle, in func(b *api.Bundle) *int, n int) api.Bundle {
	*in(&b) = n
	return b
}

// masks is all those of entities that may be, rising.
func masks() []int {
	var l []int
	for mask := pos; mask <= all; mask += 2 {
		l = append(l, mask)
	}
	return l
}

// oddNumbers is such as are none of a kind, nor a mask; some of them are such as may be if bits of them are lost.
func oddNumbers() []int {
	l := []int{math.MinInt, math.MinInt + 1, math.MaxInt, math.MaxInt - 1, -33, -32, -31, -16, -4, -3, -2, -1, 32, 33, 37, 48, 63, 64, 95, 255, 256}
	for _, bit := range []int{8, 16, 31, 32, 33, 48, 62} {
		for n := -1; n <= 4; n++ {
			l = append(l, 1<<bit+n, -1<<bit+n)
		}
	}
	return l
}

// badNames is such as may not be.
func badNames() []api.ID {
	var l []api.ID
	for _, p := range nameParts() {
		for _, n := range []int{math.MinInt, math.MaxInt, -1 << 32, 1 << 32, -2, -1, p.most + 1, p.most + 2} {
			var id api.ID
			*p.in(&id) = n
			l = append(l, id)
		}
	}
	return l
}

// badNumbers is entities of a mask, each with one number that may not be.
func badNumbers(id api.ID, mask int) []api.Bundle {
	var l []api.Bundle
	for _, x := range numbers() {
		wrong := []int{math.MinInt, math.MaxInt, x.least - 1, x.most + 1, x.least - 1<<32, x.most + 1<<32}
		if mask&x.bit == 0 {
			wrong = []int{math.MinInt, math.MaxInt, -1, 1, 1 << 32}
		}
		for _, n := range wrong {
			l = append(l, with(of(id, mask, 1), x.in, n))
		}
	}
	return l
}

// model is a store by the words of chapter 11: the rows of the tables, by their masks.
type model struct{ rows [all + 1][]api.Bundle }

// at is where an entity stands.
func (m *model) at(id api.ID) (mask, row int, there bool) {
	for mask, rows := range m.rows {
		for i, b := range rows {
			if b.ID == id {
				return mask, i, true
			}
		}
	}
	return 0, 0, false
}

func (m *model) put(b api.Bundle) api.Errno {
	if !mayBe(b) {
		return errArg
	}
	if _, _, there := m.at(b.ID); there {
		return errThere
	}
	m.rows[b.Mask] = append(m.rows[b.Mask], b)
	return ok
}

// write has an entity that is there be another one.
func (m *model) write(b api.Bundle) api.Errno {
	if !mayBe(b) {
		return errArg
	}
	if mask, row, _ := m.at(b.ID); mask == b.Mask {
		m.rows[mask][row] = b
		return ok
	}
	m.remove(b.ID)
	m.rows[b.Mask] = append(m.rows[b.Mask], b)
	return ok
}

func (m *model) remove(id api.ID) {
	mask, row, _ := m.at(id)
	rows := m.rows[mask]
	rows[row] = rows[len(rows)-1]
	m.rows[mask] = rows[:len(rows)-1]
}

// do is what the chapter says of a deed.
func (m *model) do(d api.Deed) api.Errno {
	if d.Kind < put || d.Kind > drop {
		return errArg
	}
	if d.Kind == put {
		return m.put(d.B)
	}
	mask, row, there := m.at(d.B.ID)
	if !there {
		return errNone
	}
	switch d.Kind {
	case set:
		return m.write(over(m.rows[mask][row], d.B))
	case drop:
		return m.write(less(m.rows[mask][row], d.Mask))
	}
	m.remove(d.B.ID)
	return ok
}

// doAll is what is said of deeds, one behind the other.
func (m *model) doAll(l []api.Deed) []api.Errno {
	var said []api.Errno
	for _, d := range l {
		said = append(said, m.do(d))
	}
	return said
}

// both makes a store, and a model of it, into which these are put.
func both(t *testing.T, l ...api.Bundle) (*arch.Store, *model) {
	t.Helper()
	s, m := arch.New(), new(model)
	for _, b := range l {
		must(t, "Put", s.Put(b), ok)
		must(t, "put", m.put(b), ok)
	}
	return s, m
}

// mustBeAlike says so if a store has not just what its model has, row by row.
func mustBeAlike(t *testing.T, s *arch.Store, m *model) {
	t.Helper()
	var want []api.Bundle
	for _, rows := range m.rows {
		want = append(want, rows...)
	}
	if got := slices.Collect(s.All()); !slices.Equal(got, want) || s.Len() != len(want) {
		t.Errorf("the store: %+v, want %+v", got, want)
	}
}

// must says so if an answer is another one.
func must(t *testing.T, what string, got, want api.Errno) {
	t.Helper()
	if got != want {
		t.Errorf("%s: %d, want %d", what, got, want)
	}
}

// mustDo does a deed with a store and with its model, and says so if what is said of it, or what is there then, differs.
func mustDo(t *testing.T, s *arch.Store, m *model, d api.Deed) {
	t.Helper()
	if got, want := buffer.Do(s, d), m.do(d); got != want {
		t.Errorf("Do(%+v): %d, want %d", d, got, want)
	}
	mustBeAlike(t, s, m)
}

// mustWait says so if others wait.
func mustWait(t *testing.T, b *buffer.Buffer, want ...api.Deed) {
	t.Helper()
	if got := b.List(); !slices.Equal(got, want) || b.Len() != len(want) {
		t.Errorf("List: %+v, Len: %d, want %+v", got, b.Len(), want)
	}
}

// mustSay says so if answers are others.
func mustSay(t *testing.T, what string, got []api.Errno, want ...api.Errno) {
	t.Helper()
	if !slices.Equal(got, want) {
		t.Errorf("%s: %d, want %d", what, got, want)
	}
}

// bufferOf is a buffer in which these wait.
func bufferOf(t *testing.T, l ...api.Deed) *buffer.Buffer {
	t.Helper()
	b := buffer.New()
	must(t, "Add", b.Add(l...), ok)
	return b
}

// chance is numbers of which none seems to hang on those ahead, the same ones each time.
type chance uint64

func (c *chance) below(n int) int {
	*c = *c*6364136223846793005 + 1442695040888963407
	return int(*c>>33) % n
}

// anyDeed is one of any kind for one of some names: now and then one that may not be.
func anyDeed(seed *chance, names int) api.Deed {
	i := seed.below(names)
	d := api.Deed{Kind: 1 + seed.below(4), B: of(name(i%5, i/5%7, i/35), seed.below(all+1), seed.below(100))}
	if d.Kind == put {
		d.B = of(d.B.ID, d.B.Mask|pos, seed.below(100))
	}
	if d.Kind == drop {
		d.Mask = seed.below(all + 1)
	}
	switch odd := oddNumbers(); seed.below(30) {
	case 0:
		d.Kind = odd[seed.below(len(odd))]
	case 1:
		d.Mask = odd[seed.below(len(odd))]
	case 2:
		d.B.Mask = odd[seed.below(len(odd))]
	case 3:
		*numbers()[seed.below(7)].in(&d.B) = odd[seed.below(len(odd))]
	}
	return d
}
