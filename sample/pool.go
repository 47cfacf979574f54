package sample

import "hedgerow/api"

const (
	block  = 8       // generations that one Reserve sets aside
	maxGen = 1 << 20 // the generation of an index that is worn
)

// The states of an index.
const (
	free = iota
	somebodys
	worn
)

// Slot is an index of a pool.
type Slot struct{ Gen, Bound, state int }

// Pool is one by chapter 8.
type Pool struct {
	Shards, Ids int
	Slots       map[[2]int]*Slot // by shards and indices
	rows        map[int][]int
}

// NewPool makes one of which no name is given.
func NewPool(shards, ids int) *Pool {
	p := &Pool{shards, ids, map[[2]int]*Slot{}, map[int][]int{}}
	for k := 0; k < shards; k++ {
		for i := 0; i < ids; i++ {
			p.Slots[[2]int{k, i}] = &Slot{}
			p.rows[k] = append(p.rows[k], i)
		}
	}
	return p
}

// leave has an index leave its row.
func (p *Pool) leave(k, i int) {
	var row []int
	for _, j := range p.rows[k] {
		if j != i {
			row = append(row, j)
		}
	}
	p.rows[k] = row
}

// Head tells the index that comes next, and whether its generation is set aside.
func (p *Pool) Head(k int) (int, bool, api.Errno) {
	if k < 0 || k >= p.Shards {
		return 0, false, api.ErrArg
	}
	if len(p.rows[k]) == 0 {
		return 0, false, api.ErrFull
	}
	i := p.rows[k][0]
	s := p.Slots[[2]int{k, i}]
	return i, s.Gen < s.Bound, api.OK
}

// Gen tells an index's generation.
func (p *Pool) Gen(k, i int) int {
	if s := p.Slots[[2]int{k, i}]; s != nil {
		return s.Gen
	}
	return 0
}

// Reserve sets generations of an index aside.
func (p *Pool) Reserve(k, i int) api.Errno {
	s := p.Slots[[2]int{k, i}]
	if s == nil {
		return api.ErrArg
	}
	if s.Bound == maxGen {
		return api.ErrRange
	}
	s.Bound += block
	if s.Bound > maxGen {
		s.Bound = maxGen
	}
	return api.OK
}

// Issue gives a name.
func (p *Pool) Issue(k int) (api.ID, api.Errno) {
	i, ok, e := p.Head(k)
	if e != api.OK {
		return api.ID{}, e
	}
	if !ok {
		return api.ID{}, api.ErrState
	}
	s := p.Slots[[2]int{k, i}]
	s.state = somebodys
	p.leave(k, i)
	return Name(k, i, s.Gen), api.OK
}

// Take has a name given that was given before.
func (p *Pool) Take(id api.ID) api.Errno {
	s := p.Slots[[2]int{id.Shard, id.Index}]
	if s == nil || id.Gen < 0 {
		return api.ErrArg
	}
	if s.state != free {
		return api.ErrState
	}
	if id.Gen < s.Gen || id.Gen >= s.Bound {
		return api.ErrStale
	}
	s.Gen, s.state = id.Gen, somebodys
	p.leave(id.Shard, id.Index)
	return api.OK
}

// Free takes a name back.
func (p *Pool) Free(id api.ID) api.Errno {
	s := p.Slots[[2]int{id.Shard, id.Index}]
	if s == nil || id.Gen < 0 {
		return api.ErrArg
	}
	if s.state != somebodys || s.Gen != id.Gen {
		return api.ErrStale
	}
	s.Gen++
	if s.Gen == maxGen {
		s.state = worn
		return api.OK
	}
	s.state = free
	p.rows[id.Shard] = append(p.rows[id.Shard], id.Index)
	return api.OK
}

// Alive tells whether a name is somebody's.
func (p *Pool) Alive(id api.ID) bool {
	s := p.Slots[[2]int{id.Shard, id.Index}]
	return s != nil && s.state == somebodys && s.Gen == id.Gen
}

// Lapse gives up all generations that are set aside, and tells of how many indices.
func (p *Pool) Lapse() int {
	n := 0
	for at, s := range p.Slots {
		if s.state == free && s.Gen < s.Bound {
			n++
			s.Gen = s.Bound
			if s.Gen == maxGen {
				s.state = worn
				p.leave(at[0], at[1])
			}
		}
	}
	return n
}

// List tells all names that are somebody's.
func (p *Pool) List() []api.ID {
	var l []api.ID
	for k := 0; k < p.Shards; k++ {
		for i := 0; i < p.Ids; i++ {
			if s := p.Slots[[2]int{k, i}]; s.state == somebodys {
				l = append(l, Name(k, i, s.Gen))
			}
		}
	}
	return l
}
