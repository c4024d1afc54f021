package dir_test

import (
	"math/rand"
	"testing"

	"escheat/api"
)

// anyOf is one of l.
func anyOf[T any](r *rand.Rand, l ...T) T { return l[r.Intn(len(l))] }

// anyNumber is one at an edge, one of any bits, or a small one.
func anyNumber(r *rand.Rand) int {
	return anyOf(r, anyOf(r, numbers...), int(r.Uint64()), int(r.Uint64()>>r.Intn(64)), -int(r.Uint64()>>r.Intn(64)), r.Intn(9)-2)
}

// anyText is of any bytes, or of such as names have.
func anyText(r *rand.Rand) string {
	bytes := make([]byte, r.Intn(11))
	for i := range bytes {
		bytes[i] = "abz09_"[r.Intn(6)]
		if r.Intn(20) == 0 {
			bytes[i] = byte(r.Intn(256))
		}
	}
	return string(bytes)
}

// anyCall adds or drops a name, mostly one of few; seldom the numbers or the name are of any kind.
func (b *both) anyCall(r *rand.Rand, dirs, inos int, l []string) api.Errno {
	b.t.Helper()
	d, s, ino := 1+r.Intn(dirs), anyOf(r, l...), 1+r.Intn(inos)
	switch r.Intn(30) {
	case 0:
		d = anyNumber(r)
	case 1:
		ino = anyNumber(r)
	case 2:
		s = anyOf(r, anyText(r), anyOf(r, others()...))
	}
	if r.Intn(5) < 2 {
		return b.drop(d, s)
	}
	return b.add(d, s, ino)
}

// P21.1 to P21.3: calls in any order, one behind the other
func TestAny(t *testing.T) {
	r, counts := rand.New(rand.NewSource(21)), map[api.Errno]int{}
	for run := range 150 {
		b := newBoth(t)
		for range 100 {
			counts[b.anyCall(r, 1+run%6, 1+run%5, names()[:2+run%30])]++
		}
	}
	for _, err := range []api.Errno{api.OK, api.ErrArg, api.ErrForm, api.ErrTwice, api.ErrNone} {
		if counts[err] < 100 {
			t.Errorf("%v came but %d times", err, counts[err])
		}
	}
}

// P21.1: where directories have as many names as they may have, or nearly
func TestAnyFull(t *testing.T) {
	r, counts := rand.New(rand.NewSource(211)), map[api.Errno]int{}
	var l []string
	for i := range maxEntries + 30 {
		l = append(l, name(i))
	}
	for range 12 {
		b := newBoth(t)
		b.fill(1, 3)
		b.fill(2, 1)
		for range 150 {
			d, s := 1+r.Intn(3), anyOf(r, l...)
			if r.Intn(12) == 0 {
				counts[b.drop(d, s)]++
				continue
			}
			counts[b.add(d, s, 1+r.Intn(9))]++
		}
	}
	for _, err := range []api.Errno{api.OK, api.ErrTwice, api.ErrSpace} {
		if counts[err] < 100 {
			t.Errorf("%v came but %d times", err, counts[err])
		}
	}
}

// P21.1 to P21.3: numbers of any bits, and texts of any bytes
func TestAnyBits(t *testing.T) {
	r, counts := rand.New(rand.NewSource(212)), map[api.Errno]int{}
	b := newBoth(t)
	for range 8000 {
		d, s, ino := anyNumber(r), anyText(r), anyNumber(r)
		if r.Intn(3) == 0 && len(b.w.entries) > 0 {
			e := anyOf(r, b.w.entries...)
			d, s = anyOf(r, e.Dir, e.Dir, d), anyOf(r, e.Name, e.Name, s)
		}
		if r.Intn(3) == 0 {
			counts[b.drop(d, s)]++
		} else {
			counts[b.add(d, s, ino)]++
		}
		if len(b.w.entries) > 60 {
			b = newBoth(t)
		}
	}
	for _, err := range []api.Errno{api.OK, api.ErrArg, api.ErrForm, api.ErrTwice, api.ErrNone} {
		if counts[err] < 100 {
			t.Errorf("%v came but %d times", err, counts[err])
		}
	}
}

// P21.1, P21.2: very many directories
func TestMany(t *testing.T) {
	b, dirs := newBoth(t), 2000
	for d := dirs; d > 0; d-- {
		for i := range 3 {
			expect(t, "Add", b.n.Add(d, name(i), 1+(d*3+i)%1000), api.OK)
		}
	}
	for i, e := range b.n.All() {
		if want := entry(1+i/3, name(i%3), 1+(3+i)%1000); e != want {
			t.Fatalf("at %d there is %v, not %v", i, e, want)
		}
	}
	if got := b.n.Of(5); len(got) != 6 || got[0] != entry(1, name(1), 5) {
		t.Errorf("Of(5) is %v", got)
	}
	for d := 1; d <= dirs; d += 50 {
		expectList(t, b.n, d, name(0), name(1), name(2))
	}
	for d := 1; d <= dirs; d++ {
		for i := range 3 {
			expect(t, "Drop", b.n.Drop(d, name(i)), api.OK)
			if got := b.n.Count(d); got != 2-i {
				t.Fatalf("Count(%d) is %d", d, got)
			}
		}
	}
	expectAll(t, b.n)
}
