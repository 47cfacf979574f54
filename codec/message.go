package codec

import (
	"slices"

	"hedgerow/api"
	"hedgerow/octet"
	"hedgerow/parts"
)

// shape is what messages of a kind have: whether a T, whether an N, and lists of how many members at most (of 0: none).
type shape struct {
	t, n               bool
	cmds, bundles, ids int
}

// shapeOf tells the shape of a kind, and whether there is such a kind.
func shapeOf(kind int) (shape, bool) {
	switch kind {
	case api.MsgBegin:
		return shape{t: true, cmds: api.MaxQueue}, true
	case api.MsgApplied, api.MsgMove, api.MsgPublish, api.MsgReady, api.MsgWant:
		return shape{t: true}, true
	case api.MsgSettled:
		return shape{t: true, ids: api.MaxList}, true
	case api.MsgPrepare:
		return shape{n: true, bundles: 1}, true
	case api.MsgAccepted, api.MsgCommit, api.MsgAdopted:
		return shape{n: true}, true
	case api.MsgGhosts:
		return shape{t: true, bundles: api.MaxList}, true
	}
	return shape{}, false
}

// CheckMsg tells whether a message may be.
func CheckMsg(m api.Msg) api.Errno {
	h, is := shapeOf(m.Kind)
	if is && h.fits(m) {
		return api.OK
	}
	return api.ErrArg
}

// fits tells whether a message has what its kind has, and nothing else.
func (h shape) fits(m api.Msg) bool {
	if m.Kind == api.MsgPrepare && len(m.Bundles) == 0 {
		return false // it alone must have one: all other lists may be empty
	}
	return numberMayBe(m.T, h.t) && numberMayBe(m.N, h.n) &&
		listMayBe(m.Cmds, h.cmds, parts.CheckCmd) &&
		listMayBe(m.Bundles, h.bundles, parts.Check) &&
		listMayBe(m.IDs, h.ids, parts.CheckID)
}

// numberMayBe tells whether the number of a tick, or of a handoff, may be, of a kind that has one, or has not.
func numberMayBe(n int, has bool) bool {
	if !has {
		return n == 0
	}
	return 1 <= n && n <= api.MaxTick
}

func listMayBe[T any](l []T, most int, check func(T) api.Errno) bool {
	return len(l) <= most && !slices.ContainsFunc(l, func(x T) bool { return check(x) != api.OK })
}

// Encode lays a message.
func Encode(m api.Msg) (string, api.Errno) {
	if e := CheckMsg(m); e != api.OK {
		return "", e
	}
	h, _ := shapeOf(m.Kind)
	s := octet.Int(m.Kind)
	if h.t {
		s += octet.Int(m.T)
	}
	if h.n {
		s += octet.Int(m.N)
	}
	if h.cmds > 0 {
		s += List(PutCmd, m.Cmds...)
	}
	if h.bundles > 0 {
		s += List(PutBundle, m.Bundles...)
	}
	if h.ids > 0 {
		s += List(PutID, m.IDs...)
	}
	return s, api.OK
}

// Decode reads a message.
func Decode(s string) (api.Msg, api.Errno) {
	r := octet.Of(s)
	m := readMsg(r)
	if r.Done() != api.OK || CheckMsg(m) != api.OK {
		return api.Msg{}, api.ErrFormat
	}
	return m, api.OK
}

func readMsg(r *octet.Reader) api.Msg {
	m := api.Msg{Kind: r.Int()}
	h, _ := shapeOf(m.Kind)
	if h.t {
		m.T = r.Int()
	}
	if h.n {
		m.N = r.Int()
	}
	if h.cmds > 0 {
		m.Cmds = TakeList(r, h.cmds, TakeCmd)
	}
	if h.bundles > 0 {
		m.Bundles = TakeList(r, h.bundles, TakeBundle)
	}
	if h.ids > 0 {
		m.IDs = TakeList(r, h.ids, TakeID)
	}
	return m
}
