package codec_test

import (
	"math"
	"slices"
	"strings"
	"testing"

	"hedgerow/api"
	"hedgerow/codec"
	"hedgerow/parts"
)

// span is from how many to how many members a list has; from 0 to 0 is a list that a kind has not.
type span struct{ from, to int }

// makeup is what a kind of message has by the chapter's words.
type makeup struct {
	t, n                  bool
	cmds, entities, names span
}

func kinds() map[int]makeup {
	return map[int]makeup{
		1:  {t: true, cmds: span{0, 64}},
		2:  {t: true},
		3:  {t: true},
		4:  {t: true, names: span{0, 1024}},
		5:  {t: true},
		6:  {t: true},
		7:  {n: true, entities: span{1, 1}},
		8:  {n: true},
		9:  {n: true},
		10: {n: true},
		11: {t: true},
		12: {t: true, entities: span{0, 1024}},
	}
}

// wrongKinds is numbers of no kind.
func wrongKinds() []int { return append(distant(), -12, -7, -2, -1, 0, 13, 14, 15, 16, 23, 28, 128) }

// goodMsg tells whether a message may be, by the chapter's words.
func goodMsg(m api.Msg) bool {
	k, is := kinds()[m.Kind]
	return is && goodTick(m.T, k.t) && goodTick(m.N, k.n) &&
		goodList(m.Cmds, k.cmds, parts.CheckCmd) && goodList(m.Bundles, k.entities, parts.Check) && goodList(m.IDs, k.names, parts.CheckID)
}

func goodTick(n int, has bool) bool {
	if has {
		return n >= 1 && n <= maxTick
	}
	return n == 0
}

func goodList[T any](l []T, s span, check func(T) api.Errno) bool {
	for _, x := range l {
		if check(x) != api.OK {
			return false
		}
	}
	return len(l) >= s.from && len(l) <= s.to
}

// messageRow is the numbers of which a message's bytes are.
func messageRow(m api.Msg) []int {
	k := kinds()[m.Kind]
	l := []int{m.Kind}
	if k.t {
		l = append(l, m.T)
	}
	if k.n {
		l = append(l, m.N)
	}
	l = append(l, listRow(k.cmds, m.Cmds, commandRow)...)
	l = append(l, listRow(k.entities, m.Bundles, entityRow)...)
	return append(l, listRow(k.names, m.IDs, nameRow)...)
}

func listRow[T any](s span, l []T, row func(T) []int) []int {
	if s.to == 0 {
		return nil
	}
	ns := []int{len(l)}
	for _, x := range l {
		ns = append(ns, row(x)...)
	}
	return ns
}

func scanMessage(x *scan) api.Msg {
	m := api.Msg{Kind: x.num()}
	k := kinds()[m.Kind]
	if k.t {
		m.T = x.num()
	}
	if k.n {
		m.N = x.num()
	}
	m.Cmds = scanList(x, k.cmds, scanCommand)
	m.Bundles = scanList(x, k.entities, scanEntity)
	m.IDs = scanList(x, k.names, scanName)
	return m
}

func scanList[T any](x *scan, s span, one func(*scan) T) []T {
	if s.to == 0 {
		return nil
	}
	n := x.num()
	if n < s.from || n > s.to {
		x.broken = true
	}
	var l []T
	for i := 0; i < n && !x.broken; i++ {
		l = append(l, one(x))
	}
	return l
}

// same tells whether two messages are; nil and empty lists are.
func same(a, b api.Msg) bool {
	return a.Kind == b.Kind && a.T == b.T && a.N == b.N && slices.Equal(a.Cmds, b.Cmds) && slices.Equal(a.Bundles, b.Bundles) && slices.Equal(a.IDs, b.IDs)
}

// short is a message as it is told in a test: its lists by how many members they have.
func short(m api.Msg) [6]int {
	return [6]int{m.Kind, m.T, m.N, len(m.Cmds), len(m.Bundles), len(m.IDs)}
}

// mustEncode says so if a message is not checked and encoded, and decoded again, as the chapter says.
func mustEncode(t *testing.T, m api.Msg) {
	t.Helper()
	good := goodMsg(m)
	want, err := "", api.ErrArg
	if good {
		want, err = num(messageRow(m)...), api.OK
	}
	if e := codec.CheckMsg(m); e != err {
		t.Errorf("CheckMsg(%v): %d, want %d", short(m), e, err)
	}
	s, e := codec.Encode(m)
	if s != want || e != err {
		t.Errorf("Encode(%v): %.80q, %d; want %.80q, %d", short(m), s, e, want, err)
	}
	if !good {
		return
	}
	if got, e := codec.Decode(s); e != api.OK || !same(got, m) {
		t.Errorf("Decode of Encode(%v): %v, %d", short(m), short(got), e)
	}
}

// mustDecode says so if bytes are not decoded, and encoded again, as the chapter says.
func mustDecode(t *testing.T, s string) {
	t.Helper()
	x := &scan{rest: s}
	want := scanMessage(x)
	if x.broken || x.rest != "" || !goodMsg(want) {
		mustNotDecode(t, s)
		return
	}
	got, e := codec.Decode(s)
	if e != api.OK || !same(got, want) {
		t.Errorf("Decode(%.80q): %v, %d; want %v", s, short(got), e, short(want))
	}
	if again, e := codec.Encode(got); again != s || e != api.OK {
		t.Errorf("Encode of Decode(%.80q): %.80q, %d", s, again, e)
	}
}

func mustNotDecode(t *testing.T, s string) {
	t.Helper()
	if m, e := codec.Decode(s); e != api.ErrFormat || !same(m, api.Msg{}) {
		t.Errorf("Decode(%.80q): %v, %d; want ErrFormat", s, short(m), e)
	}
}

// goodMessages is such as may be, of all kinds, short ones.
func goodMessages() []api.Msg {
	l := []api.Msg{
		{Kind: 1, T: 7},
		{Kind: 1, T: 1, Cmds: []api.Cmd{{Kind: 2}}},
		{Kind: 1, T: 2, Cmds: []api.Cmd{{Kind: 1, B: whole()}, {Kind: 2, ID: name(1, 2, 3)}, {Kind: 3, ID: name(4, 5, 6), B: of(vel|life, middle)}, {Kind: 4, ID: name(15, 15, maxGen-1), Mask: 30}}},
		{Kind: 4, T: 7},
		{Kind: 4, T: 300, IDs: []api.ID{name(1, 2, 3)}},
		{Kind: 4, T: 1, IDs: []api.ID{name(15, 0, 9), {}, {}, name(0, 15, maxGen-1)}},
		{Kind: 7, N: 5, Bundles: []api.Bundle{whole()}},
		{Kind: 7, N: maxTick, Bundles: []api.Bundle{{Mask: 1}}},
		{Kind: 12, T: 7},
		{Kind: 12, T: 1, Bundles: []api.Bundle{{Mask: 1}}},
		{Kind: 12, T: 70000, Bundles: []api.Bundle{whole(), {ID: name(9, 0, 1), Mask: 17, X: far, Left: 1}, whole()}},
	}
	for kind, k := range kinds() {
		if k.entities.from == 0 {
			for _, n := range []int{1, 2, 256, maxTick} {
				l = append(l, withTicks(api.Msg{Kind: kind}, k, n))
			}
		}
	}
	slices.SortStableFunc(l, func(a, b api.Msg) int { return a.Kind - b.Kind })
	return l
}

// withTicks is a message with a number where its kind has one.
func withTicks(m api.Msg, k makeup, n int) api.Msg {
	if k.t {
		m.T = n
	}
	if k.n {
		m.N = n
	}
	return m
}

// anyMessage is of any kind, such as may be; few have long lists.
func anyMessage(next func(int) int) api.Msg {
	kind := 1 + next(12)
	k := kinds()[kind]
	m := withTicks(api.Msg{Kind: kind}, k, 1+anyOf(next, []int{0, 1, next(1000), next(1 << 30), maxTick - 2, maxTick - 1}))
	many := func(s span) int {
		if next(30) == 0 {
			return s.to
		}
		return s.from + next(min(8, s.to-s.from+1))
	}
	m.Cmds = anyMany(next, many(k.cmds), anyCommand)
	m.Bundles = anyMany(next, many(k.entities), anyEntity)
	m.IDs = anyMany(next, many(k.names), anyName)
	return m
}

// 10.2 and 10.3

func TestEncodeExamples(t *testing.T) {
	entity := "\x01\x01\x00\x00\x01\x05\x01\x03\x80\x01\x09"
	b := api.Bundle{ID: name(1, 0, 0), Mask: 5, X: 3, Y: -1, HP: 9}
	for _, c := range []struct {
		m    api.Msg
		want string
	}{
		{api.Msg{Kind: 1, T: 2}, "\x01\x01\x01\x02\x00"},
		{api.Msg{Kind: 1, T: 2, Cmds: []api.Cmd{{Kind: 2}, {Kind: 4, Mask: 2}}}, "\x01\x01\x01\x02\x01\x02\x01\x02\x00\x00\x00\x01\x04\x00\x00\x00\x01\x02"},
		{api.Msg{Kind: 2, T: 1}, "\x01\x02\x01\x01"},
		{api.Msg{Kind: 3, T: 256}, "\x01\x03\x02\x01\x00"},
		{api.Msg{Kind: 4, T: 1}, "\x01\x04\x01\x01\x00"},
		{api.Msg{Kind: 4, T: 1, IDs: []api.ID{{Gen: 3}}}, "\x01\x04\x01\x01\x01\x01\x00\x00\x01\x03"},
		{api.Msg{Kind: 5, T: 1}, "\x01\x05\x01\x01"},
		{api.Msg{Kind: 6, T: 1}, "\x01\x06\x01\x01"},
		{api.Msg{Kind: 7, N: 4, Bundles: []api.Bundle{b}}, "\x01\x07\x01\x04\x01\x01" + entity},
		{api.Msg{Kind: 8, N: 4}, "\x01\x08\x01\x04"},
		{api.Msg{Kind: 9, N: maxTick}, "\x01\x09\x06\x01\x00\x00\x00\x00\x00"},
		{api.Msg{Kind: 10, N: 4}, "\x01\x0a\x01\x04"},
		{api.Msg{Kind: 11, T: 4}, "\x01\x0b\x01\x04"},
		{api.Msg{Kind: 12, T: 4}, "\x01\x0c\x01\x04\x00"},
		{api.Msg{Kind: 12, T: 4, Bundles: []api.Bundle{b, b}}, "\x01\x0c\x01\x04\x01\x02" + entity + entity},
	} {
		if s, e := codec.Encode(c.m); s != c.want || e != api.OK || codec.CheckMsg(c.m) != api.OK {
			t.Errorf("%v: %q, %d; want %q", short(c.m), s, e, c.want)
		}
		if m, e := codec.Decode(c.want); e != api.OK || !same(m, c.m) {
			t.Errorf("%q: %v, %d", c.want, short(m), e)
		}
	}
	if s, e := codec.Encode(api.Msg{Kind: 2}); s != "" || e != api.ErrArg {
		t.Errorf("%q, %d", s, e)
	}
}

// TestMessagesOfAllParts: of each kind, and of such as there are not, with each of T, N, Cmds, Bundles and IDs as it must be and as it may not be.
func TestMessagesOfAllParts(t *testing.T) {
	numbers := []int{math.MinInt, -1, 0, 1, 2, maxTick, maxTick + 1, math.MaxInt}
	all := wrongKinds()
	for kind := range kinds() {
		all = append(all, kind)
	}
	for _, kind := range all {
		for _, tick := range numbers {
			for _, n := range numbers {
				for _, cmds := range [][]api.Cmd{nil, {}, {{Kind: 2}}, {{}}} {
					for _, bundles := range [][]api.Bundle{nil, {}, {{Mask: 1}}, {whole(), whole()}, {{}}} {
						for _, ids := range [][]api.ID{nil, {}, {{}}, {name(16, 0, 0)}} {
							mustEncode(t, api.Msg{Kind: kind, T: tick, N: n, Cmds: cmds, Bundles: bundles, IDs: ids})
						}
					}
				}
			}
		}
		if t.Failed() {
			return
		}
	}
}

// TestNumbersOfMessages: T and N at their ends, beyond, and at all that tells.
func TestNumbersOfMessages(t *testing.T) {
	for kind, k := range kinds() {
		m := api.Msg{Kind: kind}
		if k.entities.from > 0 {
			m.Bundles = []api.Bundle{whole()}
		}
		for _, n := range telling() {
			both := m
			both.T, both.N = n, n
			mustEncode(t, both)
			mustEncode(t, withTicks(m, k, n))
			mustDecode(t, num(messageRow(withTicks(m, k, n))...))
			other := withTicks(m, k, 1)
			if k.t {
				other.N = n
			} else {
				other.T = n
			}
			mustEncode(t, other)
		}
	}
}

// filled is a message with lists of so many members.
func filled(m api.Msg, cmds, entities, names int) api.Msg {
	next := chance()
	m.Cmds, m.Bundles, m.IDs = anyMany(next, cmds, anyCommand), anyMany(next, entities, anyEntity), anyMany(next, names, anyName)
	return m
}

// TestHowMany: lists of none, one, two, as many as may be, and one more.
func TestHowMany(t *testing.T) {
	for _, n := range []int{0, 1, 2, 63, 64, 65, 66, 128, 255, 256, 1023, 1024, 1025, 2048} {
		for _, m := range []api.Msg{
			filled(api.Msg{Kind: 1, T: 1}, n, 0, 0),
			filled(api.Msg{Kind: 4, T: 1}, 0, 0, n),
			filled(api.Msg{Kind: 7, N: 1}, 0, n, 0),
			filled(api.Msg{Kind: 12, T: 1}, 0, n, 0),
			filled(api.Msg{Kind: 2, T: 1}, n, 0, 0),
			filled(api.Msg{Kind: 8, N: 1}, 0, n, 0),
			filled(api.Msg{Kind: 11, T: 1}, 0, 0, n),
		} {
			mustEncode(t, m)
			mustDecode(t, num(messageRow(m)...))
		}
	}
}

// TestMostAreEncoded: the longest messages that may be.
func TestMostAreEncoded(t *testing.T) {
	for _, m := range []api.Msg{
		filled(api.Msg{Kind: 1, T: maxTick}, 64, 0, 0),
		filled(api.Msg{Kind: 4, T: maxTick}, 0, 0, 1024),
		filled(api.Msg{Kind: 12, T: maxTick}, 0, 1024, 0),
		filled(api.Msg{Kind: 7, N: maxTick}, 0, 1, 0),
	} {
		if e := codec.CheckMsg(m); e != api.OK {
			t.Errorf("%v: %d", short(m), e)
		}
	}
	for _, m := range []api.Msg{
		filled(api.Msg{Kind: 1, T: 1}, 65, 0, 0),
		filled(api.Msg{Kind: 4, T: 1}, 0, 0, 1025),
		filled(api.Msg{Kind: 12, T: 1}, 0, 1025, 0),
		filled(api.Msg{Kind: 7, N: 1}, 0, 2, 0),
		filled(api.Msg{Kind: 7, N: 1}, 0, 0, 0),
	} {
		if s, e := codec.Encode(m); s != "" || e != api.ErrArg {
			t.Errorf("%v: %d", short(m), e)
		}
		mustNotDecode(t, num(messageRow(m)...))
	}
}

// TestOneAmongThem: that may not be, first, in the midst and last, in short lists and in the longest.
func TestOneAmongThem(t *testing.T) {
	for _, n := range []int{1, 2, 3, 9, 64} {
		for _, at := range []int{0, n / 2, n - 1} {
			for _, wrong := range []api.Cmd{{}, {Kind: 5}, {Kind: 1}, {Kind: 2, Mask: 2}, {Kind: 3, B: of(pos, least)}, {Kind: 4, Mask: 1}} {
				m := filled(api.Msg{Kind: 1, T: 1}, n, 0, 0)
				m.Cmds[at] = wrong
				mustNotBe(t, m)
			}
		}
	}
	for _, n := range []int{1, 2, 9, 1024} {
		for _, at := range []int{0, n / 2, n - 1} {
			for _, wrong := range []api.Bundle{{}, {Mask: 4, HP: 1}, {Mask: 1, X: far + 1}, {Mask: 33}, withName(whole(), name(-1, 0, 0))} {
				m := filled(api.Msg{Kind: 12, T: 1}, 0, n, 0)
				m.Bundles[at] = wrong
				mustNotBe(t, m)
			}
			for _, wrong := range []api.ID{name(16, 0, 0), name(0, -1, 0), name(0, 0, maxGen)} {
				m := filled(api.Msg{Kind: 4, T: 1}, 0, 0, n)
				m.IDs[at] = wrong
				mustNotBe(t, m)
			}
		}
	}
	for _, wrong := range badEntities() {
		mustNotBe(t, api.Msg{Kind: 7, N: 1, Bundles: []api.Bundle{wrong}})
	}
}

// mustNotBe says so if a message may be, or what would be its bytes is decoded.
func mustNotBe(t *testing.T, m api.Msg) {
	t.Helper()
	if goodMsg(m) {
		t.Errorf("%v may be", short(m))
	}
	mustEncode(t, m)
	mustDecode(t, num(messageRow(m)...))
}

// TestDecodeCutAndChanged: cut at each place, with more behind and ahead, and with each byte changed into each other one.
func TestDecodeCutAndChanged(t *testing.T) {
	for _, m := range goodMessages() {
		s := num(messageRow(m)...)
		for at := range len(s) {
			mustNotDecode(t, s[:at])
			mustDecode(t, s[at+1:])
			for n := range 256 {
				mustDecode(t, s[:at]+string([]byte{byte(n)})+s[at+1:])
				mustDecode(t, s[:at]+string([]byte{byte(n)})+s[at:])
			}
			mustDecode(t, s[:at]+s[at+1:])
		}
		for n := range 256 {
			mustNotDecode(t, s+string([]byte{byte(n)}))
			mustDecode(t, string([]byte{byte(n)})+s)
		}
		for _, more := range []string{"\x00\x00", num(1), num(-1), s, strings.Repeat("\x00", 100)} {
			mustNotDecode(t, s+more)
			mustDecode(t, more+s)
		}
		if t.Failed() {
			return
		}
	}
}

// TestDecodeOtherNumbers: with each number another one, one too many, one missing, or written as chapter 1 does not write it.
func TestDecodeOtherNumbers(t *testing.T) {
	for _, m := range goodMessages() {
		row := messageRow(m)
		for at, was := range row {
			ahead, behind := num(row[:at]...), num(row[at+1:]...)
			for _, n := range telling() {
				mustDecode(t, ahead+num(n)+behind)
				mustDecode(t, ahead+num(n, was)+behind)
			}
			for _, wrong := range miswritten(was) {
				mustDecode(t, ahead+wrong+behind)
				if wrong != "" {
					mustNotDecode(t, ahead+wrong+behind)
				}
			}
		}
		if t.Failed() {
			return
		}
	}
}

// TestDecodeWrongKinds: with what any kind has behind them.
func TestDecodeWrongKinds(t *testing.T) {
	for _, kind := range wrongKinds() {
		mustNotDecode(t, num(kind))
		mustNotDecode(t, num(kind, 1))
		for _, m := range goodMessages() {
			row := messageRow(m)
			row[0] = kind
			mustNotDecode(t, num(row...))
		}
	}
}

// TestDecodeWrongCounts: that say more, or fewer, than there are, or more than may be, though all are there.
func TestDecodeWrongCounts(t *testing.T) {
	for _, m := range []api.Msg{filled(api.Msg{Kind: 1, T: 1}, 5, 0, 0), filled(api.Msg{Kind: 4, T: 1}, 0, 0, 5), filled(api.Msg{Kind: 7, N: 1}, 0, 1, 0), filled(api.Msg{Kind: 12, T: 1}, 0, 5, 0)} {
		row := messageRow(m)
		was := row[2]
		for _, n := range append(telling(), was) {
			row[2] = n
			mustDecode(t, num(row...))
			if n != was {
				mustNotDecode(t, num(row...))
				mustNotDecode(t, num(row...)+strings.Repeat("\x00", 1000))
			}
		}
	}
	mustNotDecode(t, num(4, 1, 1025)+strings.Repeat("\x00", 3*1025))
	mustDecode(t, num(4, 1, 1024)+strings.Repeat("\x00", 3*1024))
	mustNotDecode(t, num(1, 1, 65)+strings.Repeat(num(2, 0, 0, 0), 65))
	mustDecode(t, num(1, 1, 64)+strings.Repeat(num(2, 0, 0, 0), 64))
}

// TestDecodeAnyBytes: also very long texts of them.
func TestDecodeAnyBytes(t *testing.T) {
	next := chance()
	mustNotDecode(t, "")
	for range 200000 {
		mustDecode(t, anyBytes(next, next(30)))
		mustDecode(t, num(1+next(12), 1)+anyBytes(next, next(12)))
	}
	for range 20 {
		long := anyBytes(next, 1<<20)
		mustNotDecode(t, long)
		mustDecode(t, num(1+next(12), 1)+long)
	}
	for n := range 256 {
		mustDecode(t, strings.Repeat(string([]byte{byte(n)}), 1<<18))
	}
	for _, s := range []string{"\x01\x04\x01\x01", "\x01\x0c\x01\x01\x02\x04\x00", "\x01\x01\x01\x01\x01\x40", "\x01\x07\x01\x01\x01\x01"} {
		for _, more := range []string{"\x00", "\x01", "\x01\x01", "\xff", "héé"} {
			mustNotDecode(t, s+strings.Repeat(more, 1<<20))
		}
	}
}

// What was handed over, and what was answered.

// TestTheMessageStaysAsItWas: its lists too, and what lies behind their lengths, which counts for nothing.
func TestTheMessageStaysAsItWas(t *testing.T) {
	for length := range 9 {
		room := filled(api.Msg{}, length+3, length+3, length+3)
		room.Cmds[length+1], room.Bundles[length+1], room.IDs[length+1] = api.Cmd{}, api.Bundle{}, name(-1, 0, 0)
		was := api.Msg{Cmds: slices.Clone(room.Cmds), Bundles: slices.Clone(room.Bundles), IDs: slices.Clone(room.IDs)}
		for _, m := range []api.Msg{
			{Kind: 1, T: 1, Cmds: room.Cmds[:length]},
			{Kind: 4, T: 1, IDs: room.IDs[:length]},
			{Kind: 12, T: 1, Bundles: room.Bundles[:length]},
			{Kind: 7, N: 1, Bundles: room.Bundles[:length]},
			{Kind: 2, T: 1, Cmds: room.Cmds[:0], Bundles: room.Bundles[:0], IDs: room.IDs[:0]},
		} {
			mustEncode(t, m)
			if !same(room, was) {
				t.Fatalf("%v: what was handed over was changed", short(m))
			}
		}
	}
}

// TestWhatWasDecodedIsTheAskers: whoever changes an answer changes no other one.
func TestWhatWasDecodedIsTheAskers(t *testing.T) {
	for _, m := range append(goodMessages(), filled(api.Msg{Kind: 1, T: 1}, 64, 0, 0), filled(api.Msg{Kind: 4, T: 1}, 0, 0, 1024), filled(api.Msg{Kind: 12, T: 1}, 0, 1024, 0)) {
		s, _ := codec.Encode(m)
		one, _ := codec.Decode(s)
		two, _ := codec.Decode(s)
		clear(one.Cmds)
		clear(one.Bundles)
		clear(one.IDs)
		_, _, _ = append(one.Cmds, api.Cmd{}), append(one.Bundles, api.Bundle{}), append(one.IDs, name(9, 9, 9))
		three, _ := codec.Decode(s)
		if !same(two, m) || !same(three, m) {
			t.Errorf("%v: %v, %v", short(m), short(two), short(three))
		}
		if again, e := codec.Encode(m); again != s || e != api.OK {
			t.Errorf("%v: %d", short(m), e)
		}
	}
}

// 10.4

// TestMessagesThereAndBack: what was encoded is decoded again, what is decoded is encoded as it was read, and no beginning of it is decoded.
func TestMessagesThereAndBack(t *testing.T) {
	next := chance()
	for _, m := range append(goodMessages(), anyMany(next, 2000, anyMessage)...) {
		mustEncode(t, m)
		s, e := codec.Encode(m)
		if e != api.OK {
			t.Errorf("%v: %d", short(m), e)
		}
		mustDecode(t, s)
		step := 1 + len(s)/100
		for at := 0; at < len(s); at += step {
			mustNotDecode(t, s[:at])
		}
		for at := max(0, len(s)-30); at < len(s); at++ {
			mustNotDecode(t, s[:at])
		}
	}
}

// TestAnyMessageSpoilt: with bytes of it, or numbers, changed; what is decoded all the same is encoded as it was read.
func TestAnyMessageSpoilt(t *testing.T) {
	next := chance()
	decoded := 0
	for range 100000 {
		m := anyMessage(next)
		row := messageRow(m)
		if len(row) > 200 {
			continue
		}
		for range 1 + next(3) {
			at := next(len(row))
			row[at] = anyOf(next, []int{row[at] + 1, row[at] - 1, next(32), anyOf(next, row)})
		}
		s := num(row...)
		mustDecode(t, s)
		if _, e := codec.Decode(s); e == api.OK {
			decoded++
		}
	}
	if decoded < 10000 || decoded > 90000 {
		t.Errorf("%d are decoded: too few, or too many, to tell much", decoded)
	}
}
