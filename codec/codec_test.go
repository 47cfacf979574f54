package codec_test

import (
	"math"
	"slices"
	"strings"
	"testing"

	"hedgerow/api"
	"hedgerow/codec"
	"hedgerow/octet"
)

// 10.1: what is laid

func TestPutExamples(t *testing.T) {
	for _, c := range []struct{ got, want string }{
		{codec.PutID(api.ID{}), "\x00\x00\x00"},
		{codec.PutID(name(15, 2, 300)), "\x01\x0f\x01\x02\x02\x01\x2c"},
		{codec.PutID(name(16, 0, 0)), ""},
		{codec.PutBundle(api.Bundle{ID: name(1, 0, 0), Mask: 5, X: 3, Y: -1, HP: 9}), "\x01\x01\x00\x00\x01\x05\x01\x03\x80\x01\x09"},
		{codec.PutBundle(api.Bundle{Mask: 1}), "\x00\x00\x00\x01\x01\x00\x00"},
		{codec.PutBundle(whole()), "\x01\x01\x01\x02\x01\x03\x01\x1f\x01\x0b\x81\x0b\x01\x0d\x81\x0d\x01\x0f\x01\x10\x01\x11"},
		{codec.PutBundle(api.Bundle{}), ""},
		{codec.PutBundle(api.Bundle{Mask: 4, HP: 9}), ""},
		{codec.PutCmd(api.Cmd{Kind: 1, B: api.Bundle{Mask: 9, X: 1, Y: 2, Power: 3}}), "\x01\x01\x00\x00\x00\x01\x09\x01\x01\x01\x02\x01\x03"},
		{codec.PutCmd(api.Cmd{Kind: 2, ID: name(1, 2, 3)}), "\x01\x02\x01\x01\x01\x02\x01\x03"},
		{codec.PutCmd(api.Cmd{Kind: 3, ID: name(1, 2, 3), B: api.Bundle{Mask: 18, VX: 4, VY: -5, Left: 6}}), "\x01\x03\x01\x01\x01\x02\x01\x03\x01\x12\x01\x04\x81\x04\x01\x06"},
		{codec.PutCmd(api.Cmd{Kind: 4, ID: name(1, 2, 3), Mask: 30}), "\x01\x04\x01\x01\x01\x02\x01\x03\x01\x1e"},
		{codec.PutCmd(api.Cmd{}), ""},
	} {
		if c.got != c.want {
			t.Errorf("%q, want %q", c.got, c.want)
		}
	}
}

// TestPut: all things at their least and greatest numbers, and between, and such as may not be for one thing alone.
func TestPut(t *testing.T) {
	for _, id := range append(goodNames(), badNames()...) {
		mustPut(t, names(), id)
	}
	for _, b := range append(goodEntities(), badEntities()...) {
		mustPut(t, entities(), b)
	}
	for _, c := range append(goodCommands(), badCommands()...) {
		mustPut(t, commands(), c)
	}
}

// TestSamplesAreWhatTheySay: the good ones may be, the bad ones may not.
func TestSamplesAreWhatTheySay(t *testing.T) {
	mustBeSamples(t, names(), goodNames(), badNames())
	mustBeSamples(t, entities(), goodEntities(), badEntities())
	mustBeSamples(t, commands(), goodCommands(), badCommands())
}

func mustBeSamples[T comparable](t *testing.T, th thing[T], good, bad []T) {
	t.Helper()
	for _, x := range good {
		if th.check(x) != api.OK || th.put(x) == "" {
			t.Errorf("%s %+v may be", th.what, x)
		}
	}
	for _, x := range bad {
		if th.check(x) == api.OK || th.put(x) != "" {
			t.Errorf("%s %+v may not be", th.what, x)
		}
	}
}

// TestPutAtEachPart: each part of a name, of an entity's numbers and of its Mask at each telling number.
func TestPutAtEachPart(t *testing.T) {
	for _, n := range telling() {
		for _, id := range []api.ID{name(n, 0, 0), name(0, n, 0), name(0, 0, n), name(n, 15, maxGen-1)} {
			mustPut(t, names(), id)
			mustPut(t, entities(), withName(whole(), id))
			mustPut(t, commands(), api.Cmd{Kind: 2, ID: id})
		}
		for mask := 0; mask <= all; mask++ {
			for _, x := range numbers() {
				b := of(mask, middle)
				*x.In(&b) = n
				mustPut(t, entities(), b)
				mustPut(t, commands(), api.Cmd{Kind: 1, B: b})
				mustPut(t, commands(), api.Cmd{Kind: 3, ID: name(1, 2, 3), B: b})
			}
		}
		mustPut(t, entities(), of(n, middle))
		mustPut(t, entities(), api.Bundle{Mask: n})
		mustPut(t, commands(), api.Cmd{Kind: 3, B: of(n, middle)})
		mustPut(t, commands(), api.Cmd{Kind: 4, Mask: n})
		mustPut(t, commands(), api.Cmd{Kind: n, ID: name(1, 2, 3)})
	}
}

// TestCommandsOfAllParts: of each kind, with each of ID, B and Mask, those that it has and those that it has not.
func TestCommandsOfAllParts(t *testing.T) {
	bs := []api.Bundle{{}, {ID: name(1, 2, 3)}, whole(), of(all, middle), of(vel, least), of(all-pos, most), of(pos, middle), {HP: 1}, {Mask: 32}, {Mask: -1}}
	for kind := -1; kind <= 6; kind++ {
		for _, id := range []api.ID{{}, name(1, 2, 3), name(15, 15, maxGen-1), name(-1, 0, 0), name(0, 0, maxGen)} {
			for _, b := range bs {
				for _, mask := range []int{-1, 0, 1, 2, 3, 16, 30, 31, 32} {
					c := api.Cmd{Kind: kind, ID: id, B: b, Mask: mask}
					mustPut(t, commands(), c)
					mustTake(t, commands(), num(commandRow(c)...))
				}
			}
		}
	}
}

// 10.1: what is taken

func TestTakeExamples(t *testing.T) {
	r := octet.Of("\x01\x01\x00\x00\x01\x05\x01\x03\x80\x01\x09\x00")
	if b := codec.TakeBundle(r); b != (api.Bundle{ID: name(1, 0, 0), Mask: 5, X: 3, Y: -1, HP: 9}) || r.Left() != 1 {
		t.Error(b, r.Left())
	}
	r = octet.Of("\x01\x01\x01\x02\x01\x03\x01\x1f\x01\x0b\x81\x0b\x01\x0d\x81\x0d\x01\x0f\x01\x10\x01\x11")
	if b := codec.TakeBundle(r); b != whole() || r.Done() != api.OK {
		t.Error(b, r.Done())
	}
	r = octet.Of("\x01\x03\x01\x01\x01\x02\x01\x03\x01\x12\x01\x04\x81\x04\x01\x06")
	if c := codec.TakeCmd(r); c != (api.Cmd{Kind: 3, ID: name(1, 2, 3), B: api.Bundle{Mask: 18, VX: 4, VY: -5, Left: 6}}) || r.Done() != api.OK {
		t.Error(c, r.Done())
	}
	r = octet.Of("\x01\x10\x00\x00\x00\x00\x00")
	if id := codec.TakeID(r); id != (api.ID{}) || r.Left() != 0 || r.Done() != api.ErrFormat {
		t.Error(id, r.Left())
	}
}

// TestTake: bytes of things that may be, and of such as may not be, alone and with more behind.
func TestTake(t *testing.T) {
	mustTakeAll(t, names(), goodNames(), badNames())
	mustTakeAll(t, entities(), goodEntities(), badEntities())
	mustTakeAll(t, commands(), goodCommands(), badCommands())
}

func mustTakeAll[T comparable](t *testing.T, th thing[T], good, bad []T) {
	t.Helper()
	for i, x := range append(good, bad...) {
		s := num(th.row(x)...)
		for _, rest := range []string{"", "\x00", "\xff", num(5), num(-1, 0, 7, math.MaxInt), s} {
			mustTake(t, th, s+rest)
		}
		if got, rest, is := first(th, s); i < len(good) && (got != x || rest != "" || !is) {
			t.Errorf("%s %+v: %+v", th.what, x, got)
		}
	}
}

// TestTakeCutAndChanged: bytes cut at each place, and with each byte changed into each other one.
func TestTakeCutAndChanged(t *testing.T) {
	mustTakeChanged(t, names(), goodNames())
	mustTakeChanged(t, entities(), goodEntities())
	mustTakeChanged(t, commands(), goodCommands())
}

func mustTakeChanged[T comparable](t *testing.T, th thing[T], good []T) {
	t.Helper()
	for i, x := range good {
		s := num(th.row(x)...)
		for at := range len(s) {
			mustTake(t, th, s[:at])
			mustTake(t, th, s[at+1:])
			for n := range 256 {
				if i%11 == 0 || n < 34 || n > 125 && n < 138 {
					changed := s[:at] + string([]byte{byte(n)}) + s[at+1:]
					mustTake(t, th, changed)
					mustTake(t, th, changed+"\x01\x07\x00\x80\x01\x01\x01\x02\x01\x04")
				}
			}
		}
		if t.Failed() {
			return
		}
	}
}

// TestTakeOtherNumbers: with each number another one, or written as chapter 1 does not write it.
func TestTakeOtherNumbers(t *testing.T) {
	mustTakeOthers(t, names(), goodNames())
	mustTakeOthers(t, entities(), goodEntities())
	mustTakeOthers(t, commands(), goodCommands())
}

func mustTakeOthers[T comparable](t *testing.T, th thing[T], good []T) {
	t.Helper()
	for _, x := range good {
		row := th.row(x)
		for at, was := range row {
			ahead, behind := num(row[:at]...), num(row[at+1:]...)
			for _, n := range telling() {
				mustTake(t, th, ahead+num(n)+behind)
				mustTake(t, th, ahead+num(n)+behind+num(1, 2, 3))
			}
			for _, wrong := range miswritten(was) {
				mustTake(t, th, ahead+wrong+behind)
				mustTake(t, th, ahead+wrong)
			}
		}
		if t.Failed() {
			return
		}
	}
}

func TestTakeAnyBytes(t *testing.T) {
	next := chance()
	for range 200000 {
		s := anyBytes(next, next(40))
		mustTake(t, names(), s)
		mustTake(t, entities(), s)
		mustTake(t, commands(), s)
	}
	for _, b := range []string{"\x00", "\x01", "\x02", "\x04", "\x08", "\x1f", "\x7f", "\x80", "\x81", "\xff", "\x01\x01", "\x01\x1f"} {
		s := strings.Repeat(b, 1<<17)
		mustTake(t, names(), s[:1<<10])
		for _, take := range []func(r *octet.Reader){
			func(r *octet.Reader) { codec.TakeID(r) },
			func(r *octet.Reader) { codec.TakeBundle(r) },
			func(r *octet.Reader) { codec.TakeCmd(r) },
		} {
			for r := octet.Of(s); r.Left() > 0; take(r) {
			}
		}
	}
}

// TestTakeOfBadReaders: nothing is had of one that is bad already, or of none.
func TestTakeOfBadReaders(t *testing.T) {
	for _, r := range badReaders() {
		if id, b, c := codec.TakeID(r), codec.TakeBundle(r), codec.TakeCmd(r); id != (api.ID{}) || b != (api.Bundle{}) || c != (api.Cmd{}) {
			t.Error(id, b, c)
		}
		for _, most := range []int{-1, 0, 1, math.MaxInt} {
			if l := codec.TakeList(r, most, codec.TakeID); len(l) != 0 {
				t.Error(l)
			}
		}
		mustBeBad(t, r)
	}
}

// TestTakeOneBehindTheOther: of one reader, with as much left behind each as must be; behind what is bad nothing comes any more.
func TestTakeOneBehindTheOther(t *testing.T) {
	next := chance()
	for range 500 {
		var ends, kinds []int
		var s strings.Builder
		for range next(30) {
			kind := next(4)
			kinds = append(kinds, kind)
			s.WriteString([]string{num(rowOfAny(next, kind)...), num(next(1000) - 500)}[kind/3])
			ends = append(ends, s.Len())
		}
		for _, text := range []string{s.String(), s.String() + "\x09"} {
			r, x := octet.Of(text), &scan{rest: text}
			for i, kind := range kinds {
				mustTakeNext(t, r, x, kind)
				if r.Left() != len(text)-ends[i] {
					t.Fatalf("%d left, want %d", r.Left(), len(text)-ends[i])
				}
			}
			if len(text) > s.Len() {
				codec.TakeCmd(r)
				mustBeBad(t, r)
			}
		}
	}
}

// rowOfAny is the numbers of any name, entity or command.
func rowOfAny(next func(int) int, kind int) []int {
	switch kind {
	case 0:
		return nameRow(anyName(next))
	case 1:
		return entityRow(anyEntity(next))
	}
	return commandRow(anyCommand(next))
}

// mustTakeNext says so if a reader has not next what a scan has.
func mustTakeNext(t *testing.T, r *octet.Reader, x *scan, kind int) {
	t.Helper()
	is := false
	switch kind {
	case 0:
		is = codec.TakeID(r) == scanName(x)
	case 1:
		is = codec.TakeBundle(r) == scanEntity(x)
	case 2:
		is = codec.TakeCmd(r) == scanCommand(x)
	case 3:
		is = r.Int() == x.num()
	}
	if !is || x.broken {
		t.Errorf("%d: not what was laid", kind)
	}
}

// 10.1: lists

func TestList(t *testing.T) {
	a, b := name(1, 2, 3), name(0, 0, 9)
	for _, c := range []struct{ got, want string }{
		{codec.List(codec.PutID), "\x00"},
		{codec.List(codec.PutID, []api.ID{}...), "\x00"},
		{codec.List(codec.PutID, nil...), "\x00"},
		{codec.List(codec.PutID, a), "\x01\x01" + num(1, 2, 3)},
		{codec.List(codec.PutID, a, b, a), "\x01\x03" + num(1, 2, 3, 0, 0, 9, 1, 2, 3)},
		{codec.List(codec.PutBundle, whole(), whole()), "\x01\x02" + num(entityRow(whole())...) + num(entityRow(whole())...)},
		{codec.List(codec.PutCmd, api.Cmd{Kind: 2, ID: a}), "\x01\x01" + num(2, 1, 2, 3)},
		{codec.List(codec.PutID, a, name(16, 0, 0), b), "\x01\x03" + num(1, 2, 3, 0, 0, 9)}, // of what may not be nothing is laid
		{codec.List(func(s string) string { return s }, "a", "", "bc"), "\x01\x03abc"},
		{codec.List(func(n int) string { return octet.Int(n) }, 7, -1), "\x01\x02\x01\x07\x80"},
		{codec.List(func(s string) string { return octet.Text(s) }, "xy"), "\x01\x01\x01\x02xy"},
		{codec.List(func(struct{}) string { return "" }, struct{}{}, struct{}{}), "\x01\x02"},
		{codec.List(func(l []api.ID) string { return codec.List(codec.PutID, l...) }, nil, []api.ID{a, b}, []api.ID{a}), "\x01\x03\x00\x01\x02" + num(1, 2, 3, 0, 0, 9, 1, 1, 2, 3)},
	} {
		if c.got != c.want {
			t.Errorf("%q, want %q", c.got, c.want)
		}
	}
}

// TestListOfMany: how many, written as chapter 1 writes it, and each, in order.
func TestListOfMany(t *testing.T) {
	for _, n := range []int{127, 128, 255, 256, 257, 1023, 1024, 1025, 65535, 65536, 65537} {
		var l []int
		for i := range n {
			l = append(l, i*i)
		}
		if s := codec.List(func(n int) string { return octet.Int(n) }, l...); s != num(n)+num(l...) {
			t.Errorf("%d: %d bytes", n, len(s))
		}
	}
}

// TestListOfNothingThatLays: nothing to lay by is nothing laid; of no things it is not asked.
func TestListOfNothingThatLays(t *testing.T) {
	if s := codec.List[api.ID](nil); s != "\x00" {
		t.Errorf("%q", s)
	}
	if s := codec.List(nil, 1, 2, 3); s != "" {
		t.Errorf("%q", s)
	}
}

// mustTakeList says so if a list is not taken as it should be: these things, and so many bytes left; or none, and the reader bad.
func mustTakeList[T comparable](t *testing.T, s string, most int, take func(*octet.Reader) T, want []T, rest string) {
	t.Helper()
	r := octet.Of(s)
	if l := codec.TakeList(r, most, take); !slices.Equal(l, want) {
		t.Errorf("%q, %d: %v, want %v", s, most, l, want)
	}
	mustBeLeft(t, r, rest)
}

func mustNotTakeList[T any](t *testing.T, s string, most int, take func(*octet.Reader) T) {
	t.Helper()
	r := octet.Of(s)
	if l := codec.TakeList(r, most, take); len(l) != 0 {
		t.Errorf("%q, %d: %v, want none", s, most, l)
	}
	mustBeBad(t, r)
}

// TestTakeListOfAtMost: of none, one, and as many as most is, and one more, with most 0, negative and very large.
func TestTakeListOfAtMost(t *testing.T) {
	for _, n := range []int{0, 1, 2, 3, 9, 64, 300, 1024, 1025} {
		var l []api.ID
		for i := range n {
			l = append(l, name(i%16, i/16%16, i))
		}
		s := codec.List(codec.PutID, l...)
		for _, rest := range []string{"", "\x00", num(7, -1)} {
			for _, most := range []int{n, n + 1, 2*n + 5, 1 << 40, math.MaxInt} {
				mustTakeList(t, s+rest, most, codec.TakeID, l, rest)
			}
			for _, most := range []int{n - 1, -1, -2, -n - 1, -1 << 40, math.MinInt} {
				mustNotTakeList(t, s+rest, most, codec.TakeID)
			}
			if n > 0 {
				mustNotTakeList(t, s+rest, 0, codec.TakeID)
			}
		}
	}
}

// TestTakeListOfWrongCounts: that say more, or fewer, than there are, less than none, or are no numbers.
func TestTakeListOfWrongCounts(t *testing.T) {
	three := num(1, 2, 3, 4, 5, 6, 7, 8, 9)
	l := []api.ID{name(1, 2, 3), name(4, 5, 6), name(7, 8, 9)}
	for n := range 4 {
		mustTakeList(t, num(n)+three, 9, codec.TakeID, l[:n], three[6*n:])
	}
	for _, n := range append(distant(), -3, -2, -1, 4, 5, 9, 10) {
		mustNotTakeList(t, num(n)+three, 9, codec.TakeID)
		mustNotTakeList(t, num(n)+three, math.MaxInt, codec.TakeID)
		mustNotTakeList(t, num(n), math.MaxInt, codec.TakeID)
	}
	for n := range 4 {
		for _, wrong := range miswritten(n) {
			if wrong != "" {
				mustNotTakeList(t, wrong+three, 9, codec.TakeID)
			}
		}
	}
	mustNotTakeList(t, "", 9, codec.TakeID)
}

// TestTakeListCutAndChanged: cut at each place, and one that may not be first, in the midst and last.
func TestTakeListCutAndChanged(t *testing.T) {
	mustNotTakeSpoiltLists(t, names(), goodNames(), name(16, 0, 0))
	mustNotTakeSpoiltLists(t, entities(), goodEntities(), of(life, middle))
	mustNotTakeSpoiltLists(t, commands(), goodCommands(), api.Cmd{Kind: 5})
}

func mustNotTakeSpoiltLists[T comparable](t *testing.T, th thing[T], good []T, wrong T) {
	t.Helper()
	l := good[len(good)-5:]
	s := codec.List(th.put, l...)
	mustTakeList(t, s, 5, th.take, l, "")
	for at := range len(s) {
		mustNotTakeList(t, s[:at], 5, th.take)
	}
	for at := range l {
		s := num(len(l))
		for i, x := range l {
			if i == at {
				x = wrong
			}
			s += num(th.row(x)...)
		}
		mustNotTakeList(t, s, 5, th.take)
		mustNotTakeList(t, s+s, math.MaxInt, th.take)
	}
}

// TestTakeListOfOwnThings: of whatever is taken by a function of the asker's.
func TestTakeListOfOwnThings(t *testing.T) {
	text := func(r *octet.Reader) string { return r.Text() }
	mustTakeList(t, num(3)+octet.Text("a", "", "bc")+num(5), 3, text, []string{"a", "", "bc"}, num(5))
	mustNotTakeList(t, num(3)+octet.Text("a", ""), 3, text)
	mustNotTakeList(t, num(3)+octet.Text("a", "")+"\x01\x02c", 3, text)
	int3 := func(r *octet.Reader) [3]int { return [3]int{r.Int(), r.Int(), r.Int()} }
	mustTakeList(t, num(2, 1, 2, 3, 4, 5, 6), 2, int3, [][3]int{{1, 2, 3}, {4, 5, 6}}, "")
	mustNotTakeList(t, num(2, 1, 2, 3, 4, 5), 2, int3)
	r := octet.Of(num(3, 2, 1, 2, 3, 4, 5, 6, 0, 1, 7, 8, 9, 10))
	lists := codec.TakeList(r, 3, func(r *octet.Reader) []api.ID { return codec.TakeList(r, 2, codec.TakeID) })
	if len(lists) != 3 || !slices.Equal(lists[0], []api.ID{name(1, 2, 3), name(4, 5, 6)}) || len(lists[1]) != 0 || !slices.Equal(lists[2], []api.ID{name(7, 8, 9)}) {
		t.Error(lists)
	}
	mustBeLeft(t, r, num(10))
	r = octet.Of(num(2, 1, 1, 2, 3, 2, 1, 2, 3, 4, 5, 6))
	if lists := codec.TakeList(r, 3, func(r *octet.Reader) []api.ID { return codec.TakeList(r, 1, codec.TakeID) }); len(lists) != 0 {
		t.Error(lists)
	}
	mustBeBad(t, r)
}

// TestTakeListOfThingsWithoutBytes: also ahead of them something must be left.
func TestTakeListOfThingsWithoutBytes(t *testing.T) {
	nothing := func(*octet.Reader) int { return 7 }
	mustTakeList(t, num(0), 9, nothing, nil, "")
	mustNotTakeList(t, num(1), 9, nothing)
	mustNotTakeList(t, num(3), 9, nothing)
	mustTakeList(t, num(3, 5), 9, nothing, []int{7, 7, 7}, num(5))
	mustNotTakeList(t, num(3, 5), 2, nothing)
	// the first reads all that is left: there may be a last one behind it, but no further one
	calls := 0
	once := func(r *octet.Reader) int {
		calls++
		return r.Int()
	}
	mustTakeList(t, num(1, 5), 9, once, []int{5}, "")
	mustNotTakeList(t, num(2, 5), 9, once)
	if calls != 2 {
		t.Errorf("%d calls: nothing is taken where nothing is left", calls)
	}
}

// TestTakeListThatIsMadeBad: whatever a take answers beside it, and whether it is the first, one in the midst or the last.
func TestTakeListThatIsMadeBad(t *testing.T) {
	for at := range 5 {
		for _, spoil := range []func(*octet.Reader){
			func(r *octet.Reader) { r.Count(-1) },
			func(r *octet.Reader) { r.Count(0) },
			func(r *octet.Reader) { codec.TakeID(r) },
			func(r *octet.Reader) { codec.TakeCmd(r) },
		} {
			n := 0
			take := func(r *octet.Reader) int {
				n++
				if n == at+1 {
					spoil(r)
					return 9
				}
				return r.Int()
			}
			mustNotTakeList(t, num(5, 21, 22, 23, 24, 25), 5, take)
			n = 0
			mustNotTakeList(t, num(5, 21, 22, 23, 24, 25, 26, 27, 28, 29, 30), 5, take)
		}
	}
}

func TestTakeListByNothing(t *testing.T) {
	mustTakeList[int](t, num(0, 5), 5, nil, nil, num(5))
	mustNotTakeList[int](t, num(1, 5), 5, nil)
	mustNotTakeList[int](t, num(1), 5, nil)
	mustNotTakeList[int](t, num(2), 1, nil)
	mustNotTakeList[int](t, "", 1, nil)
	if l := codec.TakeList[int](nil, 5, nil); len(l) != 0 {
		t.Error(l)
	}
	for _, r := range badReaders() {
		calls := 0
		l := codec.TakeList(r, 5, func(*octet.Reader) int { calls++; return 7 })
		if len(l) != 0 || calls != 0 {
			t.Error(l, calls)
		}
		mustBeBad(t, r)
	}
}

// What was handed over, and what was answered.

// TestTheListStaysAsItWas: also what lies behind its length, which counts for nothing.
func TestTheListStaysAsItWas(t *testing.T) {
	for length := range 20 {
		var room []api.ID
		for n := range length + 5 {
			room = append(room, name(n%16, 15-n%16, 1000-n))
		}
		was, want := slices.Clone(room), num(length)
		for _, id := range room[:length] {
			want += num(nameRow(id)...)
		}
		if s := codec.List(codec.PutID, room[:length]...); s != want || !slices.Equal(room, was) {
			t.Errorf("%d: %q, want %q; %v, want %v", length, s, want, room, was)
		}
	}
}

// TestWhatWasTakenIsTheAskers: whoever changes an answer changes no other one, nor the reader.
func TestWhatWasTakenIsTheAskers(t *testing.T) {
	l := []api.ID{name(1, 2, 3), name(4, 5, 6), name(7, 8, 9)}
	s := codec.List(codec.PutID, l...)
	r := octet.Of(s + s)
	one := codec.TakeList(r, 3, codec.TakeID)
	for i := range one {
		one[i] = api.ID{}
	}
	_ = append(one, api.ID{}, api.ID{})
	two := codec.TakeList(r, 3, codec.TakeID)
	_ = append(one[:1], api.ID{}, api.ID{}, api.ID{})
	if !slices.Equal(two, l) || r.Done() != api.OK {
		t.Errorf("%v, want %v", two, l)
	}
}

// TestTheSameAgain: the same calls are answered the same, whatever was asked between.
func TestTheSameAgain(t *testing.T) {
	ask := func(next func(int) int) string {
		r := octet.Of(anyBytes(next, 60))
		b, c := codec.TakeBundle(r), anyCommand(next)
		return codec.PutBundle(b) + "," + codec.PutCmd(c) + codec.List(codec.PutCmd, c, codec.TakeCmd(r)) + string(rune(r.Left()))
	}
	one, two := chance(), chance()
	var first []string
	for range 5000 {
		first = append(first, ask(one))
	}
	for n, want := range first {
		if got := ask(two); got != want {
			t.Fatalf("%d: %q, and %q", n, want, got)
		}
	}
}

// TestThereAndBack: what was laid is taken, and no beginning of its bytes, but all of them, is a thing's.
func TestThereAndBack(t *testing.T) {
	next := chance()
	goThereAndBack(t, names(), append(goodNames(), anyMany(next, 1000, anyName)...))
	goThereAndBack(t, entities(), append(goodEntities(), anyMany(next, 2000, anyEntity)...))
	goThereAndBack(t, commands(), append(goodCommands(), anyMany(next, 2000, anyCommand)...))
}

func goThereAndBack[T comparable](t *testing.T, th thing[T], good []T) {
	t.Helper()
	for _, x := range good {
		s := th.put(x)
		r := octet.Of(s)
		if got := th.take(r); got != x || r.Done() != api.OK {
			t.Errorf("%s %+v: %+v, Done %d", th.what, x, got, r.Done())
		}
		for at := range len(s) {
			r := octet.Of(s[:at])
			var none T
			if got := th.take(r); got != none || r.Done() != api.ErrFormat {
				t.Errorf("%s %+v, cut at %d: %+v", th.what, x, at, got)
			}
		}
	}
	s := codec.List(th.put, good...)
	r := octet.Of(s)
	if l := codec.TakeList(r, len(good), th.take); !slices.Equal(l, good) || r.Done() != api.OK {
		t.Errorf("%d of %d %ss are taken", len(l), len(good), th.what)
	}
}
