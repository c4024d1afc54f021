package op

import (
	"escheat/api"
	"escheat/pack"
)

// Bytes of a number in a text.
const (
	kindSize   = 1
	clientSize = 1
	numSize    = 4
	tickSize   = 8
	countSize  = 1 // of how many moves there are
	moveSize   = 2
)

const maxMoves = 16

// field is a field of a record that is there: it is within its bounds, is put, taken and made zero.
type field interface {
	good() bool
	put(p *pack.Packer)
	take(u *pack.Unpacker)
	clear()
}

// put puts the fields l one behind the other.
func put(p *pack.Packer, l ...field) {
	for _, f := range l {
		f.put(p)
	}
}

// take takes the fields l out in their order.
func take(u *pack.Unpacker, l ...field) {
	for _, f := range l {
		f.take(u)
	}
}

// number is a whole number in size bytes.
type number[T int | int64] struct {
	v           *T
	size        int
	least, most T
}

// within is the number v in size bytes, from least to most.
func within[T int | int64](v *T, size int, least, most T) field {
	return number[T]{v, size, least, most}
}

func (n number[T]) good() bool            { return n.least <= *n.v && *n.v <= n.most }
func (n number[T]) put(p *pack.Packer)    { p.Num(int64(*n.v), n.size) }
func (n number[T]) take(u *pack.Unpacker) { *n.v = T(u.Num(n.size)) }
func (n number[T]) clear()                { *n.v = 0 }

// text is a text that fits.
type text struct {
	s    *string
	fits func(s string) bool
}

func (t text) good() bool            { return t.fits(*t.s) }
func (t text) put(p *pack.Packer)    { p.Text(*t.s) }
func (t text) take(u *pack.Unpacker) { *t.s = u.Text(api.MaxRecord) }
func (t text) clear()                { *t.s = "" }

// moves are those of a record that has so many bytes of data.
type moves struct {
	l    *[]api.Move
	data int
}

func (v moves) good() bool {
	if len(*v.l) < 1 || len(*v.l) > maxMoves {
		return false
	}
	for _, m := range *v.l {
		for _, f := range v.fields(&m) {
			if !f.good() {
				return false
			}
		}
	}
	return true
}

func (v moves) put(p *pack.Packer) {
	p.Num(int64(len(*v.l)), countSize)
	for _, m := range *v.l {
		put(p, v.fields(&m)...)
	}
}

func (v moves) take(u *pack.Unpacker) {
	l := make([]api.Move, u.Num(countSize))
	for i := range l {
		take(u, v.fields(&l[i])...)
	}
	*v.l = l
}

func (v moves) clear() { *v.l = nil }

// fields are those of the move m, in the order in which they stand in a text.
func (v moves) fields(m *api.Move) []field {
	return []field{
		within(&m.Addr, moveSize, 0, api.MaxAddr-1),
		within(&m.From, moveSize, 0, api.MaxWrite),
		within(&m.Len, moveSize, 1, api.MaxWrite),
		// Where Len is out of its own bounds, what the difference wraps round to counts no longer.
		within(&m.At, moveSize, 0, v.data-m.Len),
	}
}
