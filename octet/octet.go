// Package octet is layer 1: see shared/doc/01-octet.md.
package octet

import (
	"math/bits"
	"strings"

	"hedgerow/api"
)

const (
	below   = 128 // what the head of a number below 0 has beside the count of its bytes
	widest  = 8   // the most bytes behind a head
	highest = 127 // the greatest first one of that many bytes
)

// Reader reads what was laid.
type Reader struct {
	rest string // nothing, once it is bad
	bad  bool
}

// Int lays numbers, one behind the other.
func Int(n ...int) string {
	var b strings.Builder
	for _, x := range n {
		layInt(&b, x)
	}
	return b.String()
}

// Text lays texts, one behind the other.
func Text(s ...string) string {
	var b strings.Builder
	for _, x := range s {
		layInt(&b, len(x))
		b.WriteString(x)
	}
	return b.String()
}

// layInt lays one number behind what b has.
func layInt(b *strings.Builder, n int) {
	head := 0
	if n < 0 {
		head, n = below, ^n // ^n is -n - 1, and does not run over at the least number
	}
	k := (bits.Len(uint(n)) + 7) / 8
	b.WriteByte(byte(head + k))
	for i := k - 1; i >= 0; i-- {
		b.WriteByte(byte(n >> (8 * i)))
	}
}

// Of reads a text's bytes.
func Of(s string) *Reader {
	return &Reader{rest: strings.Clone(s)} // what is handed in is not kept as it is
}

// Int reads a number.
func (r *Reader) Int() int {
	if r == nil {
		return 0
	}
	n, size := number(r.rest)
	if size == 0 {
		r.spoil()
		return 0
	}
	r.rest = r.rest[size:]
	return n
}

// number tells the number with which s begins, and in how many bytes it stands: in 0, if there is none.
func number(s string) (n, size int) {
	if s == "" {
		return 0, 0
	}
	k := int(s[0] &^ below)
	if k > widest || k > len(s)-1 {
		return 0, 0
	}
	digits := s[1 : 1+k]
	if !fewest(digits) {
		return 0, 0
	}
	for i := range k {
		n = n<<8 | int(digits[i])
	}
	if s[0] >= below {
		n = ^n
	}
	return n, 1 + k
}

// fewest tells whether a number may stand in these bytes: no needless 0 ahead, and none above what an int may tell.
func fewest(digits string) bool {
	switch len(digits) {
	case 0:
		return true
	case widest:
		return digits[0] != 0 && digits[0] <= highest
	}
	return digits[0] != 0
}

// Text reads a text.
func (r *Reader) Text() string {
	if r == nil {
		return ""
	}
	n := r.Count(api.MaxText)
	if n > len(r.rest) {
		r.spoil()
		return ""
	}
	s := strings.Clone(r.rest[:n]) // the asker's own, not a piece of the reader's
	r.rest = r.rest[n:]
	return s
}

// Count reads a number from 0 to most.
func (r *Reader) Count(most int) int {
	n := r.Int()
	if n < 0 || n > most {
		r.spoil()
		return 0
	}
	return n
}

// Left tells how many bytes are left.
func (r *Reader) Left() int {
	if r == nil {
		return 0
	}
	return len(r.rest)
}

// Done tells whether all was read, and rightly.
func (r *Reader) Done() api.Errno {
	if r == nil || r.bad || r.rest != "" {
		return api.ErrFormat
	}
	return api.OK
}

// spoil makes a reader bad for good: with nothing left, whatever is read later is bad too.
func (r *Reader) spoil() {
	if r != nil {
		*r = Reader{bad: true}
	}
}
