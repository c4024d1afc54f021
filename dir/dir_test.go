package dir_test

import (
	"slices"
	"strings"
	"testing"

	"escheat/api"
	"escheat/dir"
)

// P21.1: no entries
func TestNew(t *testing.T) {
	n := dir.New()
	for range 2 {
		expectAll(t, n)
		for _, v := range numbers {
			expectList(t, n, v)
			expectOf(t, n, v)
			for _, s := range append(names(), others()...) {
				expectNone(t, n, v, s)
				expect(t, "Drop", n.Drop(v, s), api.ErrNone)
			}
		}
	}
	newBoth(t)
}

// P21.1: each call of Names that are nil: ErrArg comes first.
func TestNil(t *testing.T) {
	var n *dir.Names
	for _, v := range numbers {
		for _, s := range append(names(), others()...) {
			expect(t, "Add", n.Add(v, s, 2), api.ErrArg)
			expect(t, "Add", n.Add(1, s, v), api.ErrArg)
			expect(t, "Drop", n.Drop(v, s), api.ErrArg)
			expectNone(t, n, v, s)
		}
		expectList(t, n, v)
		expectOf(t, n, v)
	}
	expectAll(t, n)
}

// P21.1: the chapter's example: the first one stays.
func TestExample(t *testing.T) {
	n := dir.New()
	expect(t, "Add", n.Add(1, "a", 2), api.OK)
	expect(t, "Add", n.Add(1, "a", 3), api.ErrTwice)
	expectFind(t, n, 1, "a", 2)
	expectList(t, n, 1, "a")
	expectOf(t, n, 2, entry(1, "a", 2))
	expectOf(t, n, 3)
	expectAll(t, n, entry(1, "a", 2))
}

// P21.1: each text that is a name is added as it is, and nothing else is there then.
func TestNames(t *testing.T) {
	all := newBoth(t)
	for _, s := range names() {
		b := newBoth(t)
		expect(t, s, b.add(7, s, 3), api.OK)
		expectFind(t, b.n, 7, s, 3)
		expectList(t, b.n, 7, s)
		expectAll(t, b.n, entry(7, s, 3))
		expect(t, s, all.add(7, s, 3), api.OK)
		expect(t, s, b.drop(7, s), api.OK)
		expectAll(t, b.n)
	}
}

// P21.1: each text that is no name is ErrForm, and nothing changes.
func TestNoNames(t *testing.T) {
	b := newBoth(t)
	b.add(1, "a", 2)
	for _, s := range append(others(), strings.Repeat("a", 1<<20), strings.Repeat("\x00", 1<<16), strings.Repeat("/a", 8)) {
		expect(t, b.last, b.add(1, s, 2), api.ErrForm)
		expect(t, b.last, b.add(2, s, 1), api.ErrForm)
		expect(t, b.last, b.drop(1, s), api.ErrNone)
		expectNone(t, b.n, 1, s)
	}
	expectAll(t, b.n, entry(1, "a", 2))
}

// P21.1: each byte at each place of texts of each length
func TestBytes(t *testing.T) {
	for c := range 256 {
		for size := range 10 {
			for at := range size {
				s := strings.Repeat("a", at) + string([]byte{byte(c)}) + strings.Repeat("a", size-at-1)
				b := newBoth(t)
				want := api.OK
				if size > 8 || !strings.Contains("abcdefghijklmnopqrstuvwxyz0123456789_", string([]byte{byte(c)})) {
					want = api.ErrForm
				}
				expect(t, s, b.add(3, s, 4), want)
				if want == api.OK {
					expectFind(t, b.n, 3, s, 4)
				} else {
					expectNone(t, b.n, 3, s)
				}
			}
		}
	}
}

// P21.1: the longest name, and one byte more: it is not cut off.
func TestLongest(t *testing.T) {
	b := newBoth(t)
	expect(t, "one byte more", b.add(1, "abcdefghi", 2), api.ErrForm)
	expect(t, "the longest", b.add(1, "abcdefgh", 2), api.OK)
	expect(t, "one byte more", b.add(1, "abcdefghi", 2), api.ErrForm)
	expectNone(t, b.n, 1, "abcdefghi")
	expect(t, "one byte more", b.drop(1, "abcdefghi"), api.ErrNone)
	expect(t, "one byte less", b.drop(1, "abcdefg"), api.ErrNone)
	expectNone(t, b.n, 1, "abcdefg")
	expect(t, "one byte less", b.add(1, "abcdefg", 3), api.OK)
	expectList(t, b.n, 1, "abcdefg", "abcdefgh")
}

// P21.1: directories and inodes at their bounds, beyond, and far beyond
func TestNumbers(t *testing.T) {
	b := newBoth(t)
	for _, d := range numbers {
		for _, ino := range numbers {
			want := api.ErrArg
			if d >= 1 && d <= last && ino >= 1 && ino <= last {
				want = api.OK
			}
			expect(t, b.last, b.add(d, "a", ino), want)
			if want == api.OK {
				expectFind(t, b.n, d, "a", ino)
				expectAll(t, b.n, entry(d, "a", ino))
				expect(t, b.last, b.drop(d, "a"), api.OK)
			}
			expectAll(t, b.n)
			expectNone(t, b.n, d, "a")
		}
	}
}

// P21.1: numbers that are alike but for their upper bits are not one.
func TestNumbersApart(t *testing.T) {
	b := newBoth(t)
	for _, v := range numbers {
		if v >= 1 && v <= last {
			expect(t, b.last, b.add(v, "a", v), api.OK)
		}
	}
	was := b.n.All()
	for _, v := range numbers {
		if v < 1 || v > last {
			expectNone(t, b.n, v, "a")
			expectList(t, b.n, v)
			expectOf(t, b.n, v)
			expect(t, "Drop", b.drop(v, "a"), api.ErrNone)
			expect(t, "Add", b.add(v, "a", 5), api.ErrArg)
			expect(t, "Add", b.add(5, "b", v), api.ErrArg)
		}
	}
	expectAll(t, b.n, was...)
}

// P21.1, P21.2: a directory and an inode of the same number: a name may stand for the directory that it stands in, too.
func TestSameNumber(t *testing.T) {
	b := newBoth(t)
	for _, e := range []dir.Entry{entry(5, "a", 6), entry(6, "a", 5), entry(5, "b", 5), entry(6, "b", 7), entry(1, "c", 5)} {
		expect(t, b.last, b.add(e.Dir, e.Name, e.Ino), api.OK)
	}
	expectList(t, b.n, 5, "a", "b")
	expectList(t, b.n, 6, "a", "b")
	expectList(t, b.n, 7)
	expectOf(t, b.n, 5, entry(1, "c", 5), entry(5, "b", 5), entry(6, "a", 5))
	expectOf(t, b.n, 6, entry(5, "a", 6))
	expectOf(t, b.n, 7, entry(6, "b", 7))
	expectOf(t, b.n, 1)
	expect(t, "Drop", b.drop(5, "b"), api.OK)
	expectList(t, b.n, 5, "a")
	expectOf(t, b.n, 5, entry(1, "c", 5), entry(6, "a", 5))
}

// P21.1: Add of what is there, for the same inode and for others: the first one stays, however often.
func TestTwice(t *testing.T) {
	b := newBoth(t)
	b.add(4, "a", 9)
	for range 3 {
		for _, ino := range []int{9, 1, 4, 8, 10, last} {
			expect(t, b.last, b.add(4, "a", ino), api.ErrTwice)
			expectFind(t, b.n, 4, "a", 9)
		}
	}
	// It is another name in each other directory.
	for _, d := range []int{1, 3, 5, 9, last} {
		expect(t, b.last, b.add(d, "a", d), api.OK)
		expect(t, b.last, b.add(d, "a", 9), api.ErrTwice)
	}
	expectAll(t, b.n, entry(1, "a", 1), entry(3, "a", 3), entry(4, "a", 9), entry(5, "a", 5), entry(9, "a", 9), entry(last, "a", last))
	// Names that begin alike are others.
	for _, s := range []string{"aa", "a_", "a0", "aaaaaaaa"} {
		expect(t, b.last, b.add(4, s, 9), api.OK)
	}
}

// P21.1: as many names as a directory may have, and once one was dropped
func TestSpace(t *testing.T) {
	for _, d := range []int{1, 7, last} {
		for _, gone := range []int{0, 1, 31, 62, 63} {
			b := newBoth(t)
			b.fill(d, 5)
			for range 3 {
				expect(t, "one more", b.add(d, "more", 5), api.ErrSpace)
				expectNone(t, b.n, d, "more")
			}
			for _, s := range []string{"n", "n0", "n00", "n0000", "zz", "0"} {
				expect(t, s, b.add(d, s, 6), api.ErrSpace)
			}
			expect(t, "what is not there", b.drop(d, "more"), api.ErrNone)
			expect(t, "one more", b.add(d, "more", 5), api.ErrSpace)
			expect(t, "Drop", b.drop(d, name(gone)), api.OK)
			expect(t, "once one was dropped", b.add(d, "more", 8), api.OK)
			expect(t, "once more", b.add(d, name(gone), 8), api.ErrSpace)
			expect(t, "Drop", b.drop(d, "more"), api.OK)
			expect(t, "what was dropped", b.add(d, name(gone), 9), api.OK)
			expect(t, "once more", b.add(d, "more", 8), api.ErrSpace)
			expectFind(t, b.n, d, name(gone), 9)
		}
	}
}

// P21.1: where a directory is full, others are not.
func TestSpaceOfOthers(t *testing.T) {
	b := newBoth(t)
	for _, full := range []int{6, 8, last} {
		b.fill(full, 5)
		for _, d := range []int{1, 5, 7, 9, last - 1} {
			expect(t, b.last, b.add(d, name(full%100), 6), api.OK)
			expect(t, b.last, b.add(d, name(full%100), 6), api.ErrTwice)
		}
		expect(t, "one more", b.add(full, "more", 5), api.ErrSpace)
		// Names of others that are dropped make no room.
		expect(t, b.last, b.drop(5, name(full%100)), api.OK)
		expect(t, "one more", b.add(full, "more", 5), api.ErrSpace)
	}
	if got := len(b.n.All()); got != 3*maxEntries+3*4 {
		t.Errorf("there are %d", got)
	}
}

// P21.1: one inode has names without bound, of several directories.
func TestManyOfOne(t *testing.T) {
	b := newBoth(t)
	for d := 1; d <= 5; d++ {
		b.fill(d, 9)
	}
	if got := b.n.Of(9); len(got) != 5*maxEntries || !slices.Equal(got, b.n.All()) {
		t.Errorf("there are %d", len(got))
	}
}

// P21.1: Add of what is there is ErrTwice, where the directory is full, too.
func TestTwiceFull(t *testing.T) {
	b := newBoth(t)
	b.fill(3, 5)
	for i := range maxEntries {
		for _, ino := range []int{5, 6} {
			expect(t, b.last, b.addOnly(3, name(i), ino), api.ErrTwice)
			expectFind(t, b.n, 3, name(i), 5)
		}
	}
	b.look()
}

// P21.1: which error comes first, wherever several hold
func TestFirst(t *testing.T) {
	b := newBoth(t)
	b.fill(3, 5)
	b.add(4, "a", 6)
	for _, x := range []struct {
		d    int
		name string
		ino  int
		want api.Errno
	}{
		{0, "", 0, api.ErrForm}, {0, "A", 2, api.ErrForm}, {2, "abcdefghi", 0, api.ErrForm}, {3, "A", 2, api.ErrForm}, {3, "", 0, api.ErrForm}, {last + 1, "a/", last + 1, api.ErrForm}, {-1, "N000", -1, api.ErrForm}, {4, "a ", 6, api.ErrForm},
		{3, name(0), 0, api.ErrArg}, {3, "more", 0, api.ErrArg}, {3, "more", last + 1, api.ErrArg}, {3, name(5), -1, api.ErrArg}, {4, "a", 0, api.ErrArg}, {4, "a", last + 1, api.ErrArg}, {0, "a", 6, api.ErrArg}, {0, "a", 0, api.ErrArg}, {4, "b", 0, api.ErrArg},
		{3, name(0), 5, api.ErrTwice}, {3, name(63), 6, api.ErrTwice}, {4, "a", 6, api.ErrTwice}, {4, "a", 3, api.ErrTwice},
		{3, "more", 5, api.ErrSpace}, {3, "a", 6, api.ErrSpace},
		{4, "b", 5, api.OK},
	} {
		expect(t, b.last, b.add(x.d, x.name, x.ino), x.want)
	}
}

// P21.1: Drop of what is there, and of what is not
func TestDrop(t *testing.T) {
	b := newBoth(t)
	for _, e := range []dir.Entry{entry(1, "a", 2), entry(1, "ab", 3), entry(1, "b", 2), entry(2, "a", 4), entry(2, "c", 2)} {
		b.add(e.Dir, e.Name, e.Ino)
	}
	was := b.n.All()
	for _, d := range numbers {
		for _, s := range append(append(names(), others()...), "c") {
			if _, there := b.w.find(d, s); there {
				continue
			}
			// Names of other directories, and texts that are no names, are not there.
			expect(t, s, b.dropOnly(d, s), api.ErrNone)
		}
	}
	expectAll(t, b.n, was...)
	expect(t, "Drop", b.drop(1, "a"), api.OK)
	expectAll(t, b.n, entry(1, "ab", 3), entry(1, "b", 2), entry(2, "a", 4), entry(2, "c", 2))
	for range 3 {
		expect(t, "Drop twice", b.drop(1, "a"), api.ErrNone)
		expectNone(t, b.n, 1, "a")
	}
	expect(t, "Drop", b.drop(2, "c"), api.OK)
	expectOf(t, b.n, 2, entry(1, "b", 2))
	expect(t, "Drop", b.drop(1, "ab"), api.OK)
	expect(t, "Drop", b.drop(1, "b"), api.OK)
	expectList(t, b.n, 1)
	expect(t, "Drop", b.drop(2, "a"), api.OK)
	expectAll(t, b.n)
	for _, e := range was {
		expect(t, "Drop twice", b.drop(e.Dir, e.Name), api.ErrNone)
	}
}

// P21.1: Find of what is there, and of what is not
func TestFind(t *testing.T) {
	b := newBoth(t)
	b.add(1, "a", 2)
	b.add(1, "bc", 3)
	b.add(2, "a", 4)
	b.add(last, "_", last)
	for _, d := range numbers {
		for _, s := range append(append(names(), others()...), "bc", "c", strings.Repeat("a", 1<<16)) {
			want, there := b.w.find(d, s)
			if ino, ok := b.n.Find(d, s); ino != want || ok != there {
				t.Errorf("Find(%d, %.20q) is %d, %v, not %d, %v", d, s, ino, ok, want, there)
			}
		}
	}
	expectFind(t, b.n, 1, "a", 2)
	expectFind(t, b.n, 2, "a", 4)
	expectFind(t, b.n, last, "_", last)
}

// P21.2: the names of a directory rise by their bytes: digits, _, letters; the beginning of another one ahead of it.
func TestListRises(t *testing.T) {
	want := names()
	turned := names()
	slices.Reverse(turned)
	mixed := names()
	for i := range mixed {
		k := (i*7 + 3) % len(mixed)
		mixed[i], mixed[k] = mixed[k], mixed[i]
	}
	for _, l := range [][]string{want, turned, mixed} {
		b := newBoth(t)
		for i, s := range l {
			expect(t, s, b.add(5, s, 100-i), api.OK)
			b.add(4, s, 5)
		}
		expectList(t, b.n, 5, want...)
		for i := 0; i < len(l); i += 2 {
			expect(t, "Drop", b.drop(5, l[i]), api.OK)
		}
		expectList(t, b.n, 4, want...)
	}
}

// P21.2: by hand: shorter ones are not ahead of longer ones as such.
func TestListShort(t *testing.T) {
	b := newBoth(t)
	for _, s := range []string{"b", "aa", "a_", "a", "_", "a0", "9", "z", "aaaaaaaa", "10", "abcdefgh", "a1"} {
		b.add(1, s, 2)
	}
	expectList(t, b.n, 1, "10", "9", "_", "a", "a0", "a1", "a_", "aa", "aaaaaaaa", "abcdefgh", "b", "z")
}

// P21.2: of directories that have none
func TestListNone(t *testing.T) {
	b := newBoth(t)
	for _, d := range []int{3, 5, last} {
		b.add(d, "a", 4)
	}
	for _, d := range numbers {
		if d != 3 && d != last {
			expectList(t, b.n, d)
		}
	}
	b.drop(3, "a")
	expectList(t, b.n, 3)
	expectList(t, b.n, 5, "a")
}

// P21.2: the entries of an inode: none, one, several in one directory, and in several, by Dir, then Name, whatever the order in which they came
func TestOf(t *testing.T) {
	l := []dir.Entry{entry(1, "b", 2), entry(10, "a", 2), entry(9, "z", 2), entry(2, "a", 7), entry(1, "a", 2), entry(9, "_", 2), entry(9, "0", 2), entry(10, "a0", 3), entry(last, "a", 2)}
	want := []dir.Entry{entry(1, "a", 2), entry(1, "b", 2), entry(9, "0", 2), entry(9, "_", 2), entry(9, "z", 2), entry(10, "a", 2), entry(last, "a", 2)}
	for range 2 {
		b := newBoth(t)
		for _, e := range l {
			expectOf(t, b.n, e.Ino, b.w.of(e.Ino)...)
			b.add(e.Dir, e.Name, e.Ino)
		}
		expectOf(t, b.n, 2, want...)
		expectOf(t, b.n, 3, entry(10, "a0", 3))
		expectOf(t, b.n, 7, entry(2, "a", 7))
		for _, ino := range []int{1, 4, 9, 10, last, 0, -2, last + 1, 1<<32 + 2} {
			expectOf(t, b.n, ino)
		}
		expectAll(t, b.n, entry(1, "a", 2), entry(1, "b", 2), entry(2, "a", 7), entry(9, "0", 2), entry(9, "_", 2), entry(9, "z", 2), entry(10, "a", 2), entry(10, "a0", 3), entry(last, "a", 2))
		for _, e := range want {
			b.drop(e.Dir, e.Name)
		}
		expectOf(t, b.n, 2)
		slices.Reverse(l)
	}
}

// P21.2: all entries by Dir, then Name: directories by their numbers, not as texts, and inodes do not count.
func TestAll(t *testing.T) {
	b := newBoth(t)
	l := []dir.Entry{entry(100, "a", 1), entry(20, "b", 9), entry(20, "a", 10), entry(3, "z", 5), entry(last, "0", 1), entry(1, "b", 3), entry(1, "a", 4), entry(1, "_", 5), entry(1, "0", 6)}
	for _, e := range l {
		b.add(e.Dir, e.Name, e.Ino)
	}
	slices.Reverse(l)
	expectAll(t, b.n, l[0], l[1], l[2], l[3], l[5], l[6], l[7], l[8], l[4])
}

// P21.3: a name stands for the inode that it was added for last, till it is dropped.
func TestLast(t *testing.T) {
	b := newBoth(t)
	for i := range 200 {
		d, s := 1+i%3, names()[i%5]
		if _, there := b.w.find(d, s); there {
			expect(t, b.last, b.drop(d, s), api.OK)
			expectNone(t, b.n, d, s)
		}
		expect(t, b.last, b.add(d, s, i+1), api.OK)
		for k := max(0, i-14); k <= i; k++ {
			expectFind(t, b.n, 1+k%3, names()[k%5], k+1)
			expectOf(t, b.n, k+1, entry(1+k%3, names()[k%5], k+1))
		}
		expect(t, b.last, b.add(d, s, 999), api.ErrTwice)
	}
	if got := len(b.n.All()); got != 15 {
		t.Errorf("there are %d", got)
	}
}

// P21.1 to P21.3: five entries, added and dropped in all orders
func TestAllOrders(t *testing.T) {
	l := []dir.Entry{entry(1, "a", 2), entry(1, "aa", 3), entry(2, "a", 2), entry(2, "_", 1), entry(3, "b", 2)}
	orders(len(l), func(come []int) {
		b := &both{t: t, n: dir.New(), w: &words{}}
		for _, i := range come {
			b.add(l[i].Dir, l[i].Name, l[i].Ino)
		}
		expectAll(t, b.n, l[0], l[1], l[3], l[2], l[4])
	})
	orders(len(l), func(leave []int) {
		b := &both{t: t, n: dir.New(), w: &words{}}
		for _, e := range l {
			b.addOnly(e.Dir, e.Name, e.Ino)
		}
		for _, i := range leave {
			expect(t, b.last, b.drop(l[i].Dir, l[i].Name), api.OK)
		}
		expectAll(t, b.n)
	})
}

// orders tells each order of the numbers below n once.
func orders(n int, each func(l []int)) {
	l := make([]int, n)
	for i := range l {
		l[i] = i
	}
	var from func(i int)
	from = func(i int) {
		if i == n {
			each(slices.Clone(l))
			return
		}
		for k := i; k < n; k++ {
			l[i], l[k] = l[k], l[i]
			from(i + 1)
			l[i], l[k] = l[k], l[i]
		}
	}
	from(0)
}

// P21.1 to P21.3: all ways of four calls over two directories, two names and two inodes
func TestAllWays(t *testing.T) {
	var steps []func(b *both) api.Errno
	for _, d := range []int{1, 2} {
		for _, s := range []string{"a", "ab"} {
			for _, ino := range []int{2, 3} {
				steps = append(steps, func(b *both) api.Errno { return b.add(d, s, ino) })
			}
			steps = append(steps, func(b *both) api.Errno { return b.drop(d, s) })
		}
	}
	counts := map[api.Errno]int{}
	for way := range len(steps) * len(steps) * len(steps) * len(steps) {
		b := &both{t: t, n: dir.New(), w: &words{}}
		for range 4 {
			counts[steps[way%len(steps)](b)]++
			way /= len(steps)
		}
	}
	for _, err := range []api.Errno{api.OK, api.ErrTwice, api.ErrNone} {
		if counts[err] < 1000 {
			t.Errorf("%v came but %d times", err, counts[err])
		}
	}
}
