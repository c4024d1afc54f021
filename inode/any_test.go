package inode_test

import (
	"math"
	"math/rand"
	"slices"
	"testing"

	"escheat/api"
	"escheat/inode"
)

// anyOf is one of l.
func anyOf[T any](r *rand.Rand, l ...T) T { return l[r.Intn(len(l))] }

// anyNumber is one at an edge, one of any bits, or a small one.
func anyNumber(r *rand.Rand) int {
	return anyOf(r, anyOf(r, numbers...), int(r.Uint64()), int(r.Uint64()>>r.Intn(64)), -int(r.Uint64()>>r.Intn(64)), r.Intn(20)-5, math.MaxInt-r.Intn(maxFile), math.MinInt+r.Intn(maxFile))
}

// anyIno is mostly one that is there.
func (b *both) anyIno(r *rand.Rand) int {
	if r.Intn(12) == 0 {
		return r.Intn(b.w.next + 3)
	}
	return anyOf(r, b.w.nodes...).ino
}

// anyMoves are some of what the file's parts point to, or of something beside it.
func (b *both) anyMoves(r *rand.Rand, ino int) []api.Move {
	var l []api.Move
	for range r.Intn(4) {
		m := move(r.Intn(4), r.Intn(30), 1+r.Intn(30), r.Intn(50))
		if x := b.w.find(ino); x != nil && len(x.parts) > 0 && r.Intn(4) > 0 {
			p := anyOf(r, x.parts...)
			m.Addr, m.From, m.Len = p.Addr, p.From+r.Intn(p.Len), 1+r.Intn(p.Len)
			m.Len = min(m.Len, maxWrite-m.From)
			m.At = anyOf(r, m.From, min(r.Intn(50), maxWrite-m.Len))
		}
		if r.Intn(20) == 0 {
			m = api.Move{Addr: anyNumber(r), From: anyNumber(r), Len: anyNumber(r), At: anyNumber(r)}
		}
		l = append(l, m)
	}
	return l
}

// anyCall does one of the calls, of numbers that mostly do not fall.
func (b *both) anyCall(r *rand.Rand, room int) api.Errno {
	b.t.Helper()
	ino, by := b.anyIno(r), anyOf(r, 1, 1, -1)
	switch r.Intn(14) {
	case 0:
		_, err := b.make(anyOf(r, api.Dir, api.File, api.File, api.File, r.Intn(5)-1))
		return err
	case 1, 2:
		return b.link(ino, by)
	case 3, 4:
		return b.open(ino, by)
	case 5, 6:
		return b.truncate(ino, r.Intn(room+3)-1)
	case 7, 8:
		return b.move(ino, b.anyMoves(r, ino), r.Intn(6))
	}
	n := 1 + r.Intn(min(room, anyOf(r, 3, 20, maxWrite)))
	return b.write(ino, r.Intn(room), n, r.Intn(4))
}

// P20.1 to P20.5: calls in any order, one behind the other; now and then what was dumped goes on in another table.
func TestAny(t *testing.T) {
	r, counts := rand.New(rand.NewSource(20)), map[api.Errno]int{}
	for run := range 120 {
		b, room := newBoth(t), anyOf(r, 10, 40, 200, maxFile)
		calls := 120
		if room == maxFile {
			calls = 40
		}
		for range 1 + run%5 {
			b.file()
		}
		for range calls {
			counts[b.anyCall(r, room)]++
			if r.Intn(9) == 0 {
				b.again()
			}
		}
	}
	for _, err := range []api.Errno{api.OK, api.ErrArg, api.ErrNone, api.ErrIsDir, api.ErrLinks, api.ErrMany, api.ErrSpace} {
		if counts[err] < 40 {
			t.Errorf("%v came but %d times", err, counts[err])
		}
	}
}

// P20.2: many inodes at once, up to as many as there may be
func TestAnyMany(t *testing.T) {
	r, full := rand.New(rand.NewSource(201)), 0
	b := newBoth(t)
	for range 3000 {
		if r.Intn(3) == 0 {
			if _, err := b.make(1 + r.Intn(2)); err == api.ErrSpace {
				full++
			}
		}
		ino := b.anyIno(r)
		if r.Intn(3) > 0 {
			b.link(ino, anyOf(r, 1, -1, -1))
		} else {
			b.open(ino, anyOf(r, 1, -1))
		}
		if r.Intn(200) == 0 {
			b.again()
		}
	}
	if full < 200 || b.w.next < 200 {
		t.Errorf("%d times there were as many as there may be, and the next number is %d", full, b.w.next)
	}
}

// P20.3: where the parts are as many as there may be, or nearly
func TestAnyParts(t *testing.T) {
	r, counts := rand.New(rand.NewSource(202)), map[api.Errno]int{}
	for range 30 {
		b := newBoth(t)
		f := full(b)
		for range 60 {
			var err api.Errno
			switch r.Intn(20) {
			case 0:
				err = b.truncate(f, 120+r.Intn(30))
			case 1, 2, 3:
				err = b.move(f, b.anyMoves(r, f), r.Intn(6))
			default:
				err = b.write(f, anyOf(r, r.Intn(140), 200+r.Intn(200)), 1+r.Intn(2), r.Intn(6))
			}
			counts[err]++
		}
	}
	if counts[api.OK] < 300 || counts[api.ErrSpace] < 300 {
		t.Errorf("%v", counts)
	}
}

// anySpoilt is l with something that is otherwise: mostly no table any more.
func anySpoilt(r *rand.Rand, l []inode.Inode) []inode.Inode {
	l = apart(l)
	i, k := r.Intn(len(l)), r.Intn(len(l))
	v := anyOf(r, anyNumber(r), r.Intn(4), l[i].Ino, l[k].Ino)
	switch r.Intn(11) {
	case 0:
		l[i].Ino = v
	case 1:
		l[i].Kind = v
	case 2:
		l[i].Links = v
	case 3:
		l[i].Opens = v
	case 4:
		l[i].Size = v
	case 5:
		l[i].Parts = l[k].Parts
	case 6:
		l[i], l[k] = l[k], l[i]
	case 7:
		l = slices.Delete(l, i, i+1)
	case 8:
		l = slices.Insert(l, i, l[k])
	case 9:
		l[i].Size += anyOf(r, -1, 1)
	case 10:
		if x := l[i].Parts; len(x) > 0 {
			p := &x[r.Intn(len(x))]
			*anyOf(r, &p.Off, &p.Len, &p.Addr, &p.From) = v
		}
	}
	return l
}

// P20.4: of what is a table, and what is none
func TestAnyLoad(t *testing.T) {
	r, counts := rand.New(rand.NewSource(203)), map[api.Errno]int{}
	for range 60 {
		b := newBoth(t)
		for range 60 {
			b.anyCall(r, 40)
		}
		for range 50 {
			// A table of which none is neither linked nor open is good as it is, so that what is spoilt counts.
			l := slices.DeleteFunc(b.w.dump(), func(x inode.Inode) bool { return x.Links+x.Opens == 0 })
			next := b.w.next
			if r.Intn(8) == 0 {
				next = anyOf(r, anyNumber(r), l[len(l)-1].Ino, l[len(l)-1].Ino+1, lastNext)
			}
			if r.Intn(8) > 0 {
				l = anySpoilt(r, l)
			}
			before := b.w.copy()
			err := b.load(l, next)
			counts[err]++
			if err == api.OK && !sameDump(b.x.Dump(), l) {
				t.Fatalf("Dump is %s, not %s", short(b.x.Dump()), short(l))
			}
			if err == api.OK {
				b.load(before.dump(), before.next)
			}
		}
	}
	if counts[api.OK] < 500 || counts[api.ErrForm] < 1000 {
		t.Errorf("%v", counts)
	}
}

// P20.1 to P20.4: numbers of any bits
func TestAnyBits(t *testing.T) {
	r := rand.New(rand.NewSource(204))
	b := newBoth(t)
	f, d := b.file(), b.dir()
	b.write(f, 3, 50, 2)
	for range 6000 {
		ino := anyOf(r, f, f, d, 1, anyNumber(r))
		switch r.Intn(7) {
		case 0:
			if kind := anyNumber(r); kind != api.Dir && kind != api.File {
				b.make(kind)
			}
		case 1:
			b.link(ino, anyNumber(r))
		case 2:
			b.open(ino, anyNumber(r))
		case 3:
			b.write(ino, anyNumber(r), anyNumber(r), anyNumber(r))
		case 4:
			b.truncate(ino, anyNumber(r))
		case 5:
			b.move(ino, moves(move(anyNumber(r), anyNumber(r), anyNumber(r), anyNumber(r))), anyNumber(r))
		case 6:
			b.load([]inode.Inode{rootOf(), {Ino: anyNumber(r), Kind: anyNumber(r), Links: anyNumber(r), Opens: anyNumber(r), Size: anyNumber(r), Parts: parts(part(anyNumber(r), anyNumber(r), anyNumber(r), anyNumber(r)))}}, anyNumber(r))
		}
		if b.w.find(f) == nil || b.w.find(d) == nil || len(b.w.nodes) > 9 {
			b = newBoth(t)
			f, d = b.file(), b.dir()
		}
	}
}

// P20.4, P20.5: a table goes on as the one that it was loaded from, whatever is called of both.
func TestAnyGoesOn(t *testing.T) {
	r := rand.New(rand.NewSource(205))
	for range 60 {
		b := newBoth(t)
		for range 50 {
			b.anyCall(r, 60)
		}
		for _, x := range b.w.dump() {
			if x.Links+x.Opens == 0 {
				b.link(x.Ino, 1)
			}
		}
		c := &both{t: t, x: inode.New(), w: b.w.copy()}
		if err := c.x.Load(b.x.Dump(), b.x.Next()); err != api.OK {
			t.Fatalf("Load of %s: %v", short(b.x.Dump()), err)
		}
		seed := r.Int63()
		one, two := rand.New(rand.NewSource(seed)), rand.New(rand.NewSource(seed))
		for range 40 {
			if a, b := b.anyCall(one, 60), c.anyCall(two, 60); a != b {
				t.Fatalf("%v and %v", a, b)
			}
		}
		if !sameDump(b.x.Dump(), c.x.Dump()) || b.x.Next() != c.x.Next() {
			t.Fatalf("%s and %s", short(b.x.Dump()), short(c.x.Dump()))
		}
	}
}
