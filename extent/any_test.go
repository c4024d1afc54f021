package extent_test

import (
	"math"
	"math/rand"
	"slices"
	"testing"

	"escheat/api"
	"escheat/extent"
)

// smallFiles are all lists of parts of a file of so many bytes, each of which is a hole or lies in the data of one of so many addresses, below below.
func smallFiles(bytes, addrs, below int) [][]api.Part {
	if bytes == 0 {
		return [][]api.Part{nil}
	}
	var all [][]api.Part
	for _, l := range smallFiles(bytes-1, addrs, below) {
		all = append(all, l)
		for addr := range addrs {
			for at := range below {
				all = append(all, joined(append(slices.Clone(l), part(bytes-1, 1, addr, at))))
			}
		}
	}
	return all
}

// P19.1, P19.2, P19.3: all calls but Move, of all files of up to five bytes
func TestSmallFiles(t *testing.T) {
	puts := append(smallParts(5, 2, 3), part(5, 2, 0, 1), part(4, 3, 1, 0), part(2, 4, 0, 0), part(1, 6, 1, 7))
	for i, l := range smallFiles(5, 2, 2) {
		expectGood(t, l, true)
		if got := extent.End(l); got != endOf(l) {
			t.Errorf("End(%v) = %d", l, got)
		}
		for off := range 6 {
			sameCut(t, l, off)
			for n := 1; n < 7; n++ {
				samePlan(t, l, off, n)
			}
		}
		for k, x := range puts {
			// Each is put into some of them, as that many would take long.
			if (i+k)%3 == 0 {
				samePut(t, l, x)
			}
		}
	}
}

// P19.4: all moves of small numbers, of all files of up to four bytes
func TestSmallMoves(t *testing.T) {
	for _, l := range smallFiles(4, 2, 3) {
		for from := range 3 {
			for n := 1; n < 4; n++ {
				for at := range 3 {
					for to := range 3 {
						sameMove(t, l, api.Move{Addr: 1, From: from, Len: n, At: at}, to)
					}
				}
			}
		}
	}
}

// anyOf is one of l.
func anyOf[T any](r *rand.Rand, l ...T) T { return l[r.Intn(len(l))] }

// anyPart is a part that is good alone, of one of a few addresses, mostly such as may go on in others.
func anyPart(r *rand.Rand, room int) api.Part {
	n := 1 + r.Intn(anyOf(r, 1, 3, 20, 200, maxWrite))
	off := r.Intn(min(room, maxFile-n+1))
	x := part(off, n, r.Intn(3), off%(maxWrite-n+1))
	if r.Intn(3) == 0 {
		x.From = r.Intn(maxWrite - n + 1)
	}
	if r.Intn(20) == 0 {
		x.Addr = r.Intn(maxAddr)
	}
	return x
}

// anyParts are some that are good, made by the words alone.
func anyParts(r *rand.Rand) []api.Part {
	var l []api.Part
	room := anyOf(r, 10, 50, 300, 3000, maxFile)
	for range r.Intn(anyOf(r, 3, 10, 100)) {
		if next, err := putOf(l, anyPart(r, room)); err == api.OK {
			l = next
		}
	}
	return l
}

// anyMove is a move of what x or something beside it points to.
func anyMove(r *rand.Rand, x api.Part) (api.Move, int) {
	n := 1 + r.Intn(anyOf(r, 3, 20, x.Len, maxWrite))
	m := api.Move{Addr: x.Addr, From: min(max(x.From+r.Intn(30)-10, 0), maxWrite-n), Len: n}
	m.At = anyOf(r, m.From, r.Intn(maxWrite-n+1), min(m.From+1, maxWrite-n), 0)
	return m, anyOf(r, x.Addr, r.Intn(4), r.Intn(maxAddr))
}

// P19.2, P19.3, P19.4: calls in any order, one behind the other, held against the words
func TestAny(t *testing.T) {
	r, counts := rand.New(rand.NewSource(19)), map[api.Errno]int{}
	for range 150 {
		l := anyParts(r)
		room := anyOf(r, 20, 100, 1000, maxFile)
		for range 30 {
			var next []api.Part
			var err api.Errno
			switch r.Intn(8) {
			default:
				next, err = samePut(t, l, anyPart(r, room))
			case 0:
				next = sameCut(t, l, r.Intn(room+9)-4)
			case 1, 2, 3:
				x := anyPart(r, room)
				if len(l) > 0 {
					x = anyOf(r, l...)
				}
				m, to := anyMove(r, x)
				next, err = sameMove(t, l, m, to)
			}
			counts[err]++
			if err == api.OK {
				l = next
			}
			expectGood(t, l, true)
			expectEnd(t, l, endOf(l))
			samePlan(t, l, r.Intn(maxFile), 1+r.Intn(400))
			samePlan(t, l, r.Intn(room), 1+r.Intn(40))
		}
	}
	if counts[api.OK] < 1000 || counts[api.ErrMany] < 5 {
		t.Errorf("%v", counts)
	}
}

// P19.2, P19.4: where they are as many as there may be, or nearly
func TestAnyMany(t *testing.T) {
	r, counts := rand.New(rand.NewSource(192)), map[api.Errno]int{}
	for range 400 {
		l := few(maxParts-r.Intn(4), 1+r.Intn(3), 4)
		for i := range l {
			l[i].Addr, l[i].From = r.Intn(3), anyOf(r, 0, l[i].Off, r.Intn(40))
		}
		for range 6 {
			x := part(r.Intn(270), 1+r.Intn(9), r.Intn(3), r.Intn(40))
			if r.Intn(2) == 0 {
				x.From = x.Off
			}
			next, err := samePut(t, l, x)
			if r.Intn(2) == 0 {
				m, to := anyMove(r, anyOf(r, l...))
				next, err = sameMove(t, l, m, to)
			}
			counts[err]++
			if err == api.OK && len(next) > maxParts-4 {
				l = next
			}
		}
	}
	if counts[api.OK] < 500 || counts[api.ErrMany] < 200 {
		t.Errorf("%v", counts)
	}
}

// anySpoilt is l with something that is otherwise: mostly no parts that are good any more.
func anySpoilt(r *rand.Rand, l []api.Part) []api.Part {
	l = slices.Clone(l)
	if len(l) == 0 {
		return parts(part(r.Intn(3)-1, r.Intn(3), r.Intn(3)-1, r.Intn(3)-1))
	}
	i, k := r.Intn(len(l)), r.Intn(len(l))
	v := anyOf(r, append(numbers, int(r.Uint64()))...)
	switch r.Intn(9) {
	case 0:
		l[i].Off = v
	case 1:
		l[i].Len = v
	case 2:
		l[i].Addr = v
	case 3:
		l[i].From = v
	case 4:
		l[i], l[k] = l[k], l[i]
	case 5:
		l = slices.Insert(l, i, l[k])
	case 6:
		l[i].Len += anyOf(r, -1, 1)
	case 7:
		l[i].Off += anyOf(r, -1, 1)
	case 8:
		x := l[i]
		l = append(l[:i:i], append(append(stretch(x, 0, x.Len/2), stretch(x, x.Len/2, x.Len)...), l[i+1:]...)...)
	}
	return l
}

// P19.1: of what is good and what is not, all calls at once
func TestAnySpoilt(t *testing.T) {
	r, good := rand.New(rand.NewSource(191)), map[bool]int{}
	for range 3000 {
		l := anySpoilt(r, anyParts(r))
		want := areParts(l)
		good[want]++
		expectGood(t, l, want)
		expectEnd(t, l, endOf(l))
		sameCut(t, l, r.Intn(300))
		samePlan(t, l, r.Intn(300), 1+r.Intn(300))
		samePut(t, l, anyPart(r, 300))
		m, to := anyMove(r, anyPart(r, 300))
		sameMove(t, l, m, to)
	}
	if good[true] < 300 || good[false] < 1000 {
		t.Errorf("%v", good)
	}
}

// P19.1 to P19.4: numbers of any bits
func TestAnyBits(t *testing.T) {
	r := rand.New(rand.NewSource(193))
	number := func() int {
		return anyOf(r, int(r.Uint64()), int(r.Uint64()>>r.Intn(64)), -int(r.Uint64()>>r.Intn(64)), r.Intn(20)-5, math.MaxInt-r.Intn(maxFile), math.MinInt+r.Intn(maxFile))
	}
	for range 30000 {
		var l []api.Part
		for range r.Intn(3) {
			l = append(l, part(number(), number(), number(), number()))
		}
		expectGood(t, l, areParts(l))
		if extent.End(l) != endOf(l) {
			t.Errorf("End(%v) = %d", l, extent.End(l))
		}
		fine := parts(part(0, 10, 1, 0), part(20, 10, 1, 100))
		for _, l := range [][]api.Part{l, fine} {
			samePut(t, l, part(number(), number(), number(), number()))
			sameCut(t, l, number())
			samePlan(t, l, number(), number())
			sameMove(t, l, api.Move{Addr: number(), From: number(), Len: number(), At: number()}, number())
		}
	}
}
