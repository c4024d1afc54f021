package inode_test

import (
	"math"
	"testing"

	"escheat/api"
	"escheat/inode"
)

// P20.1: the root alone
func TestNew(t *testing.T) {
	x := inode.New()
	expectAll(t, x, 2, 1)
	expectStat(t, x, 1, api.Stat{Ino: 1, Kind: api.Dir, Links: 1}, 0)
	expectParts(t, x, 1)
	if got := x.Dump(); !sameDump(got, []inode.Inode{{Ino: 1, Kind: api.Dir, Links: 1}}) {
		t.Errorf("Dump is %v", got)
	}
	for _, ino := range numbers {
		if ino != 1 {
			expectNone(t, x, ino)
		}
	}
}

// P20.1: each call of a table that is nil
func TestNil(t *testing.T) {
	var x *inode.Table
	for _, v := range numbers {
		if ino, err := x.Make(v); ino != 0 || err != api.ErrArg {
			t.Errorf("Make(%d): %d, %v", v, ino, err)
		}
		expect(t, "Link", x.Link(v, 1), api.ErrArg)
		expect(t, "Link", x.Link(1, v), api.ErrArg)
		expect(t, "Open", x.Open(v, 1), api.ErrArg)
		expect(t, "Open", x.Open(2, v), api.ErrArg)
		expect(t, "Write", x.Write(v, 0, 1, 1), api.ErrArg)
		expect(t, "Write", x.Write(2, v, v, v), api.ErrArg)
		expect(t, "Truncate", x.Truncate(v, 0), api.ErrArg)
		expect(t, "Truncate", x.Truncate(2, v), api.ErrArg)
		expect(t, "Move", x.Move(v, nil, 1), api.ErrArg)
		expect(t, "Move", x.Move(2, moves(move(1, 0, 1, 0)), v), api.ErrArg)
		expect(t, "Load", x.Load(inode.New().Dump(), v), api.ErrArg)
		expectNone(t, x, v)
	}
	expect(t, "Load of none", x.Load(nil, 2), api.ErrArg)
	expectAll(t, x, 0)
	if got := x.Dump(); len(got) != 0 {
		t.Errorf("Dump: %v", got)
	}
}

// P20.2: the chapter's example
func TestExample(t *testing.T) {
	x := inode.New()
	if ino, err := x.Make(api.File); ino != 2 || err != api.OK {
		t.Errorf("Make: %d, %v", ino, err)
	}
	expectStat(t, x, 2, api.Stat{Ino: 2, Kind: api.File}, 0)
	expect(t, "Link by 1", x.Link(2, 1), api.OK)
	expectStat(t, x, 2, api.Stat{Ino: 2, Kind: api.File, Links: 1}, 0)
	expect(t, "Link by -1", x.Link(2, -1), api.OK)
	expectNone(t, x, 2)
	expectAll(t, x, 3, 1)
}

// P20.2: of each kind, and of what is none
func TestMake(t *testing.T) {
	b := newBoth(t)
	for _, kind := range append([]int{api.Written, api.Trimmed}, numbers...) {
		want := api.ErrArg
		if kind == 1 || kind == 2 {
			want = api.OK
		}
		if _, err := b.make(kind); err != want {
			t.Errorf("Make(%d): %v", kind, err)
		}
	}
	b = newBoth(t)
	for ino := 2; ino < 10; ino++ {
		kind := 1 + ino%2
		if got, err := b.make(kind); got != ino || err != api.OK {
			t.Errorf("Make(%d): %d, %v", kind, got, err)
		}
		expectStat(t, b.x, ino, api.Stat{Ino: ino, Kind: kind}, 0)
		expectParts(t, b.x, ino)
	}
	expectAll(t, b.x, 10, 1, 2, 3, 4, 5, 6, 7, 8, 9)
}

// P20.2: as many as there may be, and once one has gone
func TestMakeMany(t *testing.T) {
	b := newBoth(t)
	for range maxInodes - 2 {
		b.make(api.File)
	}
	if ino, err := b.make(api.Dir); ino != maxInodes || err != api.OK {
		t.Errorf("the last one: %d, %v", ino, err)
	}
	for range 3 {
		for _, kind := range []int{api.Dir, api.File} {
			if ino, err := b.make(kind); ino != 0 || err != api.ErrSpace {
				t.Errorf("one more: %d, %v", ino, err)
			}
		}
		// What comes first is told, where both hold.
		if ino, err := b.make(0); ino != 0 || err != api.ErrArg {
			t.Errorf("of no kind: %d, %v", ino, err)
		}
	}
	for i, gone := range []int{2, maxInodes, 33, 3} {
		b.link(gone, 1)
		b.make(api.File)
		b.link(gone, -1)
		expectNone(t, b.x, gone)
		if ino, err := b.make(api.File); ino != maxInodes+1+i || err != api.OK {
			t.Errorf("once %d has gone: %d, %v", gone, ino, err)
		}
		if ino, err := b.make(api.File); ino != 0 || err != api.ErrSpace {
			t.Errorf("one more behind that: %d, %v", ino, err)
		}
	}
}

// P20.2: a number is never given twice, though the one of the greatest number went.
func TestNumbersOnce(t *testing.T) {
	b := newBoth(t)
	for want := 2; want < 300; want++ {
		ino, err := b.make(1 + want%2)
		if ino != want || err != api.OK {
			t.Fatalf("%d, %v, not %d", ino, err, want)
		}
		b.link(ino, 1)
		b.link(ino, -1)
		expectAll(t, b.x, want+1, 1)
		expectNone(t, b.x, want)
	}
}

// P20.1: All tells them by rising numbers, whichever went.
func TestAllRises(t *testing.T) {
	b := newBoth(t)
	for range 40 {
		b.file()
	}
	want := []int{1}
	for ino := 2; ino <= 41; ino++ {
		if ino%3 == 0 || ino == 41 {
			b.link(ino, -1)
			continue
		}
		want = append(want, ino)
	}
	b.file()
	expectAll(t, b.x, 43, append(want, 42)...)
}

// P20.2: numbers that are not there: ErrNone comes first.
func TestNotThere(t *testing.T) {
	b := newBoth(t)
	b.file()
	gone := b.file()
	b.link(gone, -1)
	b.dir()
	for _, ino := range append([]int{gone, 5, -gone}, numbers...) {
		if from(ino, 1, 4) && ino != gone {
			continue
		}
		for _, v := range numbers {
			for what, err := range map[string]api.Errno{
				"Link": b.x.Link(ino, v), "Open": b.x.Open(ino, v), "Write": b.x.Write(ino, v, 1, 1), "Write of": b.x.Write(ino, 0, v, 1), "Write to": b.x.Write(ino, 0, 1, v),
				"Truncate": b.x.Truncate(ino, v), "Move": b.x.Move(ino, nil, v), "Move of": b.x.Move(ino, moves(move(v, v, v, v)), v),
			} {
				expect(t, what, err, api.ErrNone)
			}
		}
		expectNone(t, b.x, ino)
	}
	b.look()
}

// P20.2: by what is not 1 or -1
func TestBy(t *testing.T) {
	b := newBoth(t)
	f, d := b.file(), b.dir()
	b.open(f, 1)
	b.open(f, 1)
	b.link(f, 1)
	for _, ino := range []int{1, f, d} {
		for _, by := range numbers {
			if by == 1 || by == -1 {
				continue
			}
			// ErrArg comes ahead of ErrIsDir.
			expect(t, b.last, b.link(ino, by), api.ErrArg)
			expect(t, b.last, b.open(ino, by), api.ErrArg)
		}
	}
	expectStat(t, b.x, f, api.Stat{Ino: f, Kind: api.File, Links: 2}, 2)
}

// P20.2: which error comes first, where links and opens are at their edges, too
func TestByFirst(t *testing.T) {
	b := newBoth(t)
	f, d := b.file(), b.dir()
	fill(b, f, d)
	for _, by := range []int{0, 2, -2, maxLinks, -maxLinks, maxOpens, math.MaxInt, math.MinInt, math.MinInt + 1, math.MaxInt - maxLinks + 1, math.MaxInt - maxOpens + 1} {
		expect(t, "Link", b.link(f, by), api.ErrArg)
		expect(t, "Link", b.link(d, by), api.ErrArg)
		expect(t, "Open", b.open(f, by), api.ErrArg)
		expect(t, "Open", b.open(d, by), api.ErrArg)
	}
	for _, by := range []int{-1, 1} {
		expect(t, "Open of a directory", b.open(d, by), api.ErrIsDir)
	}
}

// fill gives a file and a directory as many links as there may be, and the file as many opens.
func fill(b *both, f, d int) {
	for range maxLinks - 1 {
		b.link(f, 1)
		b.link(d, 1)
	}
	for range maxOpens {
		b.open(f, 1)
	}
}

// P20.2: the root has its one link, and is not opened.
func TestRoot(t *testing.T) {
	b := newBoth(t)
	for range 3 {
		for _, by := range []int{1, -1} {
			expect(t, "Link", b.link(1, by), api.ErrArg)
			expect(t, "Open", b.open(1, by), api.ErrIsDir)
		}
	}
	expect(t, "Write", b.write(1, 0, 1, 1), api.ErrIsDir)
	expect(t, "Truncate", b.truncate(1, 0), api.ErrIsDir)
	expect(t, "Move", b.move(1, nil, 0), api.ErrIsDir)
	expectAll(t, b.x, 2, 1)
	expectStat(t, b.x, 1, api.Stat{Ino: 1, Kind: api.Dir, Links: 1}, 0)
}

// P20.2: links of files and directories, from 0 to as many as there may be
func TestLinks(t *testing.T) {
	for _, kind := range []int{api.File, api.Dir} {
		b := newBoth(t)
		ino, _ := b.make(kind)
		expect(t, "below 0", b.link(ino, -1), api.ErrLinks)
		expectStat(t, b.x, ino, api.Stat{Ino: ino, Kind: kind}, 0)
		for i := range maxLinks {
			expect(t, b.last, b.link(ino, 1), api.OK)
			expectStat(t, b.x, ino, api.Stat{Ino: ino, Kind: kind, Links: i + 1}, 0)
		}
		for range 2 {
			expect(t, "above the most", b.link(ino, 1), api.ErrLinks)
			expectStat(t, b.x, ino, api.Stat{Ino: ino, Kind: kind, Links: maxLinks}, 0)
		}
		for i := range maxLinks - 1 {
			expect(t, b.last, b.link(ino, -1), api.OK)
			expectStat(t, b.x, ino, api.Stat{Ino: ino, Kind: kind, Links: maxLinks - 1 - i}, 0)
		}
		expect(t, "the last one", b.link(ino, -1), api.OK)
		expectNone(t, b.x, ino)
		expect(t, "behind the last one", b.link(ino, -1), api.ErrNone)
		expect(t, "behind the last one", b.link(ino, 1), api.ErrNone)
	}
}

// P20.2: opens of a file, from 0 to as many as there may be; of a directory none
func TestOpens(t *testing.T) {
	b := newBoth(t)
	f, _ := b.make(api.File)
	d, _ := b.make(api.Dir)
	expect(t, "below 0", b.open(f, -1), api.ErrMany)
	for i := range maxOpens {
		expect(t, b.last, b.open(f, 1), api.OK)
		expectStat(t, b.x, f, api.Stat{Ino: f, Kind: api.File}, i+1)
	}
	for range 2 {
		expect(t, "above the most", b.open(f, 1), api.ErrMany)
		expectStat(t, b.x, f, api.Stat{Ino: f, Kind: api.File}, maxOpens)
	}
	for range maxOpens - 1 {
		expect(t, b.last, b.open(f, -1), api.OK)
	}
	expectStat(t, b.x, f, api.Stat{Ino: f, Kind: api.File}, 1)
	expect(t, "the last one", b.open(f, -1), api.OK)
	expectNone(t, b.x, f)
	expect(t, "behind the last one", b.open(f, -1), api.ErrNone)
	for range 2 {
		for _, by := range []int{-1, 1} {
			expect(t, "of a directory", b.open(d, by), api.ErrIsDir)
		}
		b.link(d, 1)
	}
	expectStat(t, b.x, d, api.Stat{Ino: d, Kind: api.Dir, Links: 2}, 0)
}

// P20.2: one that was made stays, till it lost the last of what it was given; it is written, cut and moved meanwhile.
func TestStays(t *testing.T) {
	b := newBoth(t)
	f, _ := b.make(api.File)
	d, _ := b.make(api.Dir)
	// None of these is a Link or an Open that was done.
	b.link(f, -1)
	b.open(f, -1)
	b.link(d, -1)
	b.write(f, 0, 5, 3)
	b.write(f, 0, 0, 3)
	b.truncate(f, 3)
	b.truncate(f, -1)
	b.move(f, moves(move(3, 0, 2, 7)), 9)
	b.move(f, moves(move(3, 0, 0, 7)), 9)
	b.file()
	b.link(1, -1)
	expectAll(t, b.x, 5, 1, 2, 3, 4)
	expectParts(t, b.x, f, part(0, 2, 9, 7), part(2, 1, 3, 2))
	// The first of them is not the last.
	expect(t, "Open", b.open(f, 1), api.OK)
	expect(t, "Link", b.link(f, -1), api.ErrLinks)
	expectStat(t, b.x, f, api.Stat{Ino: f, Kind: api.File, Size: 3}, 1)
	expect(t, "Open", b.open(f, -1), api.OK)
	expectNone(t, b.x, f)
	expectAll(t, b.x, 5, 1, 3, 4)
}

// P20.2: with links and opens it stays, till both are gone, whichever goes first.
func TestGoes(t *testing.T) {
	for links := range 3 {
		for opens := range 3 {
			if links+opens == 0 {
				continue
			}
			for order := range 2 {
				b := newBoth(t)
				f, _ := b.make(api.File)
				other := b.file()
				for range links {
					b.link(f, 1)
				}
				for range opens {
					b.open(f, 1)
				}
				b.write(f, 2, 3, 7)
				for i := range links + opens {
					expectStat(t, b.x, f, api.Stat{Ino: f, Kind: api.File, Links: b.w.find(f).links, Size: 5}, b.w.find(f).opens)
					if first := i < []int{links, opens}[order]; first == (order == 0) {
						expect(t, "Link", b.link(f, -1), api.OK)
					} else {
						expect(t, "Open", b.open(f, -1), api.OK)
					}
				}
				expectNone(t, b.x, f)
				expectAll(t, b.x, 4, 1, other)
			}
		}
	}
}

// P20.2: all ways of eight Links and Opens of a file, of six of a directory
func TestAllWays(t *testing.T) {
	steps := []func(b *both, ino int) api.Errno{
		func(b *both, ino int) api.Errno { return b.link(ino, 1) },
		func(b *both, ino int) api.Errno { return b.link(ino, -1) },
		func(b *both, ino int) api.Errno { return b.open(ino, 1) },
		func(b *both, ino int) api.Errno { return b.open(ino, -1) },
	}
	for kind, long := range map[int]int{api.File: 8, api.Dir: 6} {
		for way := range 1 << (2 * long) {
			b := &both{t: t, x: inode.New(), w: newWords()}
			ino, _ := b.make(kind)
			for ; way > 0; way >>= 2 {
				steps[way&3](b, ino)
			}
		}
	}
}
