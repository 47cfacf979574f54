package codec_test

import (
	"math"
	"slices"
	"strings"
	"testing"

	"hedgerow/api"
	"hedgerow/codec"
	"hedgerow/octet"
	"hedgerow/parts"
	"hedgerow/sample"
)

// What the tests of several layers say of entities.
var name, numbers = sample.Name, sample.Numbers

// number is one of an entity's.
type number = sample.Number

// The bits of a Mask, and all of them.
const (
	pos, vel, life, power, left = 1, 2, 4, 8, 16
	all                         = 31
)

const (
	far     = 1 << 30 // the greatest fixed number
	maxGen  = 1 << 20
	maxTick = 1 << 40
)

// num is numbers' bytes by chapter 1, worked out digit by digit.
func num(l ...int) string {
	var s []byte
	for _, n := range l {
		m, head := n, 0
		if n < 0 {
			m, head = -(n + 1), 128
		}
		var digits []byte
		for ; m > 0; m /= 256 {
			digits = append(digits, byte(m%256))
		}
		slices.Reverse(digits)
		s = append(append(s, byte(head+len(digits))), digits...)
	}
	return string(s)
}

// miswritten is ways to write a number that chapter 1 has not: with a needless 0 ahead, with a head that is none, with more than an int may tell, and cut.
func miswritten(n int) []string {
	s := num(n)
	head, digits := s[0], s[1:]
	l := []string{"\x09" + strings.Repeat("\x01", 9), "\x7f", "\x89" + digits, "\xff" + digits, "\x08\x80" + strings.Repeat("\x00", 7), "\x88\xff" + strings.Repeat("\xff", 7), ""}
	for k := 1; len(digits)+k <= 8; k++ {
		l = append(l, string([]byte{head + byte(k)})+strings.Repeat("\x00", k)+digits)
	}
	return l
}

// scan goes through bytes by the chapters' words; once something is not there it is broken for good.
type scan struct {
	rest   string
	broken bool
}

func (x *scan) num() int {
	if x.broken || x.rest == "" {
		x.broken = true
		return 0
	}
	k, below := int(x.rest[0]), x.rest[0] >= 128
	if below {
		k -= 128
	}
	if k > 8 || k > len(x.rest)-1 {
		x.broken = true
		return 0
	}
	n := 0
	for _, digit := range []byte(x.rest[1 : 1+k]) {
		n = n*256 + int(digit)
	}
	if below {
		n = -n - 1
	}
	if num(n) != x.rest[:1+k] { // a number has one encoding
		x.broken = true
		return 0
	}
	x.rest = x.rest[1+k:]
	return n
}

// has tells whether a mask, of negative ones and very large ones too, has a bit.
func has(mask, bit int) bool { return mask&bit != 0 }

// thing is a kind of things: its calls, the numbers of which one's bytes are, how one is read of them, and whether one may be.
type thing[T comparable] struct {
	what  string
	put   func(T) string
	take  func(*octet.Reader) T
	row   func(T) []int
	scan  func(*scan) T
	check func(T) api.Errno
}

func names() thing[api.ID] {
	return thing[api.ID]{"name", codec.PutID, codec.TakeID, nameRow, scanName, parts.CheckID}
}

func entities() thing[api.Bundle] {
	return thing[api.Bundle]{"entity", codec.PutBundle, codec.TakeBundle, entityRow, scanEntity, parts.Check}
}

func commands() thing[api.Cmd] {
	return thing[api.Cmd]{"command", codec.PutCmd, codec.TakeCmd, commandRow, scanCommand, parts.CheckCmd}
}

func nameRow(id api.ID) []int { return []int{id.Shard, id.Index, id.Gen} }

func scanName(x *scan) api.ID {
	k := x.num()
	i := x.num()
	return name(k, i, x.num())
}

func componentsRow(b api.Bundle) []int {
	l := []int{b.Mask}
	for _, n := range numbers() {
		if has(b.Mask, n.Bit) {
			l = append(l, *n.In(&b))
		}
	}
	return l
}

func scanComponents(x *scan) api.Bundle {
	b := api.Bundle{Mask: x.num()}
	for _, n := range numbers() {
		if has(b.Mask, n.Bit) {
			*n.In(&b) = x.num()
		}
	}
	return b
}

func entityRow(b api.Bundle) []int { return append(nameRow(b.ID), componentsRow(b)...) }

func scanEntity(x *scan) api.Bundle {
	id := scanName(x)
	return withName(scanComponents(x), id)
}

func commandRow(c api.Cmd) []int {
	l := []int{c.Kind}
	switch c.Kind {
	case 1:
		return append(l, entityRow(c.B)...)
	case 2:
		return append(l, nameRow(c.ID)...)
	case 3:
		return append(append(l, nameRow(c.ID)...), componentsRow(c.B)...)
	case 4:
		return append(append(l, nameRow(c.ID)...), c.Mask)
	}
	return l
}

func scanCommand(x *scan) api.Cmd {
	c := api.Cmd{Kind: x.num()}
	switch c.Kind {
	case 1:
		c.B = scanEntity(x)
	case 2:
		c.ID = scanName(x)
	case 3:
		c.ID = scanName(x)
		c.B = scanComponents(x)
	case 4:
		c.ID = scanName(x)
		c.Mask = x.num()
	}
	return c
}

// first is what comes next in bytes by the chapter's words, what is left behind it, and whether there is such a thing that may be.
func first[T comparable](th thing[T], s string) (T, string, bool) {
	x := &scan{rest: s}
	got := th.scan(x)
	if x.broken || th.check(got) != api.OK {
		var none T
		return none, "", false
	}
	return got, x.rest, true
}

// mustPut says so if a thing's bytes are not the chapter's, or what may not be has some.
func mustPut[T comparable](t *testing.T, th thing[T], x T) {
	t.Helper()
	want := ""
	if th.check(x) == api.OK {
		want = num(th.row(x)...)
	}
	if s := th.put(x); s != want {
		t.Errorf("%s %+v: %q, want %q", th.what, x, s, want)
	}
}

// mustTake says so if what comes first in bytes is taken otherwise than the chapter says, or something else is left.
func mustTake[T comparable](t *testing.T, th thing[T], s string) {
	t.Helper()
	want, rest, good := first(th, s)
	r := octet.Of(s)
	if got := th.take(r); got != want {
		t.Errorf("%s of %q: %+v, want %+v", th.what, s, got, want)
	}
	if good {
		mustBeLeft(t, r, rest)
		return
	}
	mustBeBad(t, r)
}

// mustBeLeft says so if a reader is bad, or has not just these bytes left. It reads them.
func mustBeLeft(t *testing.T, r *octet.Reader, rest string) {
	t.Helper()
	if r.Left() != len(rest) || rest == "" && r.Done() != api.OK {
		t.Errorf("%d left, Done %d; want %q left", r.Left(), r.Done(), rest)
		return
	}
	for x := (&scan{rest: rest}); x.rest != ""; {
		n := x.num()
		if x.broken {
			return
		}
		if m := r.Int(); m != n || r.Left() != len(x.rest) {
			t.Errorf("%d, %d left, behind it; want %d, %d", m, r.Left(), n, len(x.rest))
			return
		}
	}
}

// mustBeBad says so if anything can still be had of a reader.
func mustBeBad(t *testing.T, r *octet.Reader) {
	t.Helper()
	if r.Left() != 0 || r.Done() != api.ErrFormat || r.Int() != 0 || r.Text() != "" || r.Done() != api.ErrFormat {
		t.Errorf("Left %d, Done %d: the reader is not bad", r.Left(), r.Done())
	}
}

// badReaders is one that is bad from the first on, one that became so behind something good, and none.
func badReaders() []*octet.Reader {
	one, two := octet.Of("\x09"), octet.Of(num(0, 0, 0, 0, 0, 0, 0, 0))
	one.Int()
	two.Int()
	two.Count(-1)
	return []*octet.Reader{one, two, nil}
}

// withName is an entity of another name.
func withName(b api.Bundle, id api.ID) api.Bundle {
	b.ID = id
	return b
}

// whole is an entity that may be, with all components; no two of its numbers are alike.
func whole() api.Bundle {
	return api.Bundle{ID: name(1, 2, 3), Mask: all, X: 11, Y: -12, VX: 13, VY: -14, HP: 15, Power: 16, Left: 17}
}

// of is components without a name, each number as it is picked.
func of(mask int, pick func(x number) int) api.Bundle {
	b := api.Bundle{Mask: mask}
	for _, x := range numbers() {
		if has(mask, x.Bit) {
			*x.In(&b) = pick(x)
		}
	}
	return b
}

func least(x number) int { return x.Least }

func most(x number) int { return x.Most }

// middle is from the least to the greatest, and another one for each component.
func middle(x number) int { return min(x.Most, 2+x.Bit*7) }

// components is those of a mask, with their numbers at their least, at their greatest and between.
func components(mask int) []api.Bundle {
	l := []api.Bundle{of(mask, least), of(mask, most), of(mask, middle)}
	for i, x := range numbers() { // and each one alone at its greatest, so that none is taken for another one
		if has(mask, x.Bit) {
			b := of(mask, least)
			*x.In(&b) = min(x.Most, 1000+i)
			l = append(l, b)
		}
	}
	return l
}

// goodNames is all that are at their ends in each part, and some between.
func goodNames() []api.ID {
	l := []api.ID{name(1, 2, 3), name(7, 8, 300), name(3, 9, 70000)}
	for _, k := range []int{0, 15} {
		for _, i := range []int{0, 15} {
			for _, g := range []int{0, maxGen - 1} {
				l = append(l, name(k, i, g))
			}
		}
	}
	return l
}

// goodEntities is such as may be, of all masks that one may have.
func goodEntities() []api.Bundle {
	var l []api.Bundle
	for mask := 1; mask <= all; mask += 2 {
		for i, b := range components(mask) {
			l = append(l, withName(b, goodNames()[(mask+i)%len(goodNames())]))
		}
	}
	return append(l, whole())
}

// goodCommands is such as may be, of all kinds, with all masks that each may have.
func goodCommands() []api.Cmd {
	var l []api.Cmd
	for _, b := range goodEntities() {
		l = append(l, api.Cmd{Kind: 1, B: b})
	}
	for _, id := range goodNames() {
		l = append(l, api.Cmd{Kind: 2, ID: id})
		for mask := 2; mask <= all; mask += 2 {
			l = append(l, api.Cmd{Kind: 4, ID: id, Mask: mask})
		}
	}
	for mask := 2; mask <= all; mask += 2 {
		for i, b := range components(mask) {
			l = append(l, api.Cmd{Kind: 3, ID: goodNames()[(mask+i)%len(goodNames())], B: b})
		}
	}
	return l
}

// distant is numbers beyond all that may be; some of them are such as may be if bits of them are lost.
func distant() []int {
	l := []int{math.MinInt, math.MinInt + 1, math.MaxInt, math.MaxInt - 1}
	for _, bit := range []int{8, 16, 24, 31, 32, 33, 41, 48, 56, 62} {
		l = append(l, 1<<bit, 1<<bit+1, 1<<bit+4, -1<<bit, -1<<bit+1)
	}
	return l
}

// telling is numbers at all ends that the chapters name, beside them, small ones, and distant ones.
func telling() []int {
	l := distant()
	for n := -3; n <= 34; n++ {
		l = append(l, n)
	}
	for _, n := range []int{63, 127, 255, 1 << 10, maxGen, far, -far, maxTick} {
		l = append(l, n-2, n-1, n, n+1)
	}
	slices.Sort(l)
	return slices.Compact(l)
}

// badNames is such as may not be for one part alone, or for all of them.
func badNames() []api.ID {
	var l []api.ID
	for _, n := range append(distant(), -2, -1, 16, 17, 255, maxGen, maxGen+1) {
		l = append(l, name(n, 1, 1), name(1, n, 1))
		if n < 0 || n >= maxGen {
			l = append(l, name(1, 1, n), name(n, n, n))
		}
	}
	return l
}

// badComponents is those of a mask of which one number may not be, and such as have a number of a component that they have not.
func badComponents(mask int) []api.Bundle {
	var l []api.Bundle
	for _, x := range numbers() {
		ns := []int{-1, 1, math.MinInt, math.MaxInt}
		if has(mask, x.Bit) {
			ns = []int{x.Least - 1, x.Most + 1, math.MinInt, math.MaxInt, 1<<32 + x.Least}
		}
		for _, n := range ns {
			b := of(mask, middle)
			*x.In(&b) = n
			l = append(l, b)
		}
	}
	return l
}

// badMasks is such as no entity and no command may have.
func badMasks() []int { return append(distant(), -32, -31, -16, -2, -1, 32, 33, 34, 63, 64, 65, 66) }

// badEntities is such as may not be for one thing alone.
func badEntities() []api.Bundle {
	l := []api.Bundle{{}, {X: 1}, {ID: name(1, 1, 1)}}
	for mask := 0; mask <= all; mask++ {
		l = append(l, badComponents(mask)...)
		if !has(mask, pos) {
			l = append(l, withName(of(mask, middle), name(1, 2, 3)))
		}
	}
	for _, mask := range badMasks() {
		l = append(l, of(mask, middle))
	}
	for _, id := range badNames() {
		l = append(l, withName(whole(), id), withName(of(pos, least), id))
	}
	return l
}

// badCommands is such as may not be for one thing alone, or of a kind that there is not.
func badCommands() []api.Cmd {
	var l []api.Cmd
	for _, b := range badEntities() {
		l = append(l, api.Cmd{Kind: 1, B: b})
	}
	for _, id := range badNames() {
		l = append(l, api.Cmd{Kind: 2, ID: id}, api.Cmd{Kind: 3, ID: id, B: of(vel, middle)}, api.Cmd{Kind: 4, ID: id, Mask: vel})
	}
	for mask := 0; mask <= all; mask += 2 {
		for _, b := range badComponents(mask) {
			l = append(l, api.Cmd{Kind: 3, ID: name(1, 2, 3), B: b})
		}
	}
	for mask := 1; mask <= all; mask += 2 {
		l = append(l, api.Cmd{Kind: 3, B: of(mask, middle)}, api.Cmd{Kind: 4, Mask: mask})
	}
	for _, mask := range badMasks() {
		l = append(l, api.Cmd{Kind: 3, B: of(mask, middle)}, api.Cmd{Kind: 4, Mask: mask})
	}
	return append(l, oddCommands()...)
}

// oddCommands is of kinds that there are not, and such as have a part that their kind has not.
func oddCommands() []api.Cmd {
	b, id, set := whole(), name(4, 5, 6), of(life, middle)
	l := []api.Cmd{
		{Kind: 1},
		{Kind: 1, ID: id, B: b},
		{Kind: 1, B: b, Mask: vel},
		{Kind: 2, ID: id, B: b},
		{Kind: 2, ID: id, B: set},
		{Kind: 2, ID: id, B: withName(api.Bundle{}, id)},
		{Kind: 2, ID: id, Mask: vel},
		{Kind: 3, ID: id},
		{Kind: 3, ID: id, B: withName(set, id)},
		{Kind: 3, ID: id, B: set, Mask: vel},
		{Kind: 4, ID: id},
		{Kind: 4, ID: id, B: set, Mask: life},
		{Kind: 4, ID: id, B: withName(api.Bundle{}, id), Mask: life},
	}
	for _, kind := range append(distant(), -4, -3, -2, -1, 0, 5, 6, 7, 8) {
		l = append(l, api.Cmd{Kind: kind}, api.Cmd{Kind: kind, B: b}, api.Cmd{Kind: kind, ID: id}, api.Cmd{Kind: kind, ID: id, B: set}, api.Cmd{Kind: kind, ID: id, Mask: vel})
	}
	return l
}

// chance is the same row of numbers each time.
func chance() func(n int) int {
	seed := uint64(1)
	return func(n int) int {
		seed = seed*6364136223846793005 + 1442695040888963407
		return int((seed >> 33) % uint64(n))
	}
}

// anyOf is one of a list.
func anyOf[T any](next func(int) int, l []T) T { return l[next(len(l))] }

// anyComponents is such as may be, of a mask.
func anyComponents(next func(int) int, mask int) api.Bundle {
	return of(mask, func(x number) int { return anyOf(next, []int{x.Least, x.Most, x.Least + next(x.Most-x.Least+1)}) })
}

func anyName(next func(int) int) api.ID { return name(next(16), next(16), next(maxGen)>>next(20)) }

func anyEntity(next func(int) int) api.Bundle {
	return withName(anyComponents(next, 1+2*next(16)), anyName(next))
}

func anyCommand(next func(int) int) api.Cmd {
	mask := 2 + 2*next(15)
	switch id := anyName(next); next(4) {
	case 0:
		return api.Cmd{Kind: 1, B: anyEntity(next)}
	case 1:
		return api.Cmd{Kind: 2, ID: id}
	case 2:
		return api.Cmd{Kind: 3, ID: id, B: anyComponents(next, mask)}
	default:
		return api.Cmd{Kind: 4, ID: id, Mask: mask}
	}
}

// anyMany is some things of one kind, each made anew.
func anyMany[T any](next func(int) int, n int, one func(func(int) int) T) []T {
	var l []T
	for range n {
		l = append(l, one(next))
	}
	return l
}

// anyBytes is bytes of which most may stand in something that may be.
func anyBytes(next func(int) int, n int) string {
	b := make([]byte, n)
	for i := range b {
		switch next(8) {
		case 0:
			b[i] = byte(next(256))
		case 1:
			b[i] = byte(128 + next(9))
		case 2, 3:
			b[i] = byte(next(16))
		case 4, 5:
			b[i] = 1
		}
	}
	return string(b)
}
