package inode_test

import (
	"math"
	"testing"

	"escheat/api"
)

// P20.3: writes one behind the other: what was written last counts, and the size is never less for it.
func TestWrite(t *testing.T) {
	b := newBoth(t)
	f := b.file()
	for _, c := range []struct {
		off, n, addr, size int
		want               []api.Part
	}{
		{0, 10, 5, 10, parts(part(0, 10, 5, 0))},
		{3, 2, 8, 10, parts(part(0, 3, 5, 0), part(3, 2, 8, 0), part(5, 5, 5, 5))},
		{9, 1, 7, 10, parts(part(0, 3, 5, 0), part(3, 2, 8, 0), part(5, 4, 5, 5), part(9, 1, 7, 0))},
		{9, 2, 6, 11, parts(part(0, 3, 5, 0), part(3, 2, 8, 0), part(5, 4, 5, 5), part(9, 2, 6, 0))},
		{20, 4, 5, 24, parts(part(0, 3, 5, 0), part(3, 2, 8, 0), part(5, 4, 5, 5), part(9, 2, 6, 0), part(20, 4, 5, 0))},
		{0, 24, 4, 24, parts(part(0, 24, 4, 0))},
		{0, 3, 4, 24, parts(part(0, 24, 4, 0))},
		{1, 3, 4, 24, parts(part(0, 1, 4, 0), part(1, 3, 4, 0), part(4, 20, 4, 4))},
		{0, 25, 0, 25, parts(part(0, 25, 0, 0))},
	} {
		expect(t, b.last, b.write(f, c.off, c.n, c.addr), api.OK)
		expectParts(t, b.x, f, c.want...)
		expectStat(t, b.x, f, api.Stat{Ino: f, Kind: api.File, Links: 1, Size: c.size}, 0)
	}
}

// P20.3: off, n, both together and addr, each at its least and greatest
func TestWriteEdges(t *testing.T) {
	for _, c := range []api.Part{
		part(0, 1, 1, 0), part(0, maxWrite, 1, 0), part(maxFile-1, 1, 1, 0), part(maxFile-maxWrite, maxWrite, 1, 0), part(maxFile-2, 1, 1, 0), part(maxFile-2, 2, 1, 0), part(maxFile-maxWrite-1, maxWrite, 1, 0),
		part(5, 5, 0, 0), part(5, 5, maxAddr-1, 0), part(0, maxWrite, maxAddr-1, 0), part(maxFile-1, 1, 0, 0),
	} {
		b := newBoth(t)
		f := b.file()
		expect(t, b.last, b.write(f, c.Off, c.Len, c.Addr), api.OK)
		expectParts(t, b.x, f, c)
		expectStat(t, b.x, f, api.Stat{Ino: f, Kind: api.File, Links: 1, Size: c.Off + c.Len}, 0)
	}
}

// P20.3: off, n and both together, one beyond and far beyond; nothing changes.
func TestWriteSpace(t *testing.T) {
	b := newBoth(t)
	f := b.file()
	b.write(f, 2, 5, 3)
	for _, c := range [][2]int{
		{-1, 1}, {-1, 2}, {-5, 10}, {-maxWrite, maxWrite}, {math.MinInt, 1}, {math.MinInt, maxWrite}, {math.MinInt + 1, maxWrite},
		{0, 0}, {0, -1}, {5, 0}, {5, -5}, {5, -1}, {0, maxWrite + 1}, {0, math.MaxInt}, {0, math.MinInt}, {maxFile, 0}, {maxFile + 1, -1}, {maxFile, -maxFile}, {-1, 0}, {-1, -1},
		{maxFile, 1}, {maxFile - 1, 2}, {maxFile - maxWrite, maxWrite + 1}, {maxFile - maxWrite + 1, maxWrite}, {maxFile + 1, 1}, {maxFile - 4, 5},
		// sums that run over
		{math.MaxInt, 1}, {math.MaxInt, maxWrite}, {math.MaxInt - maxWrite + 1, maxWrite}, {1, math.MaxInt}, {maxFile, math.MaxInt}, {math.MaxInt, math.MaxInt}, {math.MinInt, math.MinInt}, {math.MinInt, math.MaxInt}, {1 << 32, 1}, {5, 1<<32 + 1}, {1<<62 + 1, 1 << 62}, {1 << 63 >> 1, 1 << 62},
	} {
		expect(t, b.last, b.write(f, c[0], c[1], 1), api.ErrSpace)
		// ErrSpace comes ahead of ErrArg.
		for _, addr := range []int{-1, maxAddr, math.MaxInt, math.MinInt} {
			expect(t, b.last, b.write(f, c[0], c[1], addr), api.ErrSpace)
		}
	}
	expectParts(t, b.x, f, part(2, 5, 3, 0))
	expectStat(t, b.x, f, api.Stat{Ino: f, Kind: api.File, Links: 1, Size: 7}, 0)
}

// P20.3: addresses that are none
func TestWriteAddr(t *testing.T) {
	b := newBoth(t)
	f := b.file()
	b.write(f, 2, 5, 3)
	for _, addr := range numbers {
		if from(addr, 0, maxAddr-1) {
			expect(t, b.last, b.write(f, 0, 20, addr), api.OK)
			expectParts(t, b.x, f, part(0, 20, addr, 0))
			continue
		}
		for _, at := range [][2]int{{0, 1}, {3, 2}, {100, 5}, {maxFile - 1, 1}, {0, maxWrite}} {
			expect(t, b.last, b.write(f, at[0], at[1], addr), api.ErrArg)
		}
	}
}

// P20.3: what is no file
func TestNoFile(t *testing.T) {
	b := newBoth(t)
	b.file()
	d := b.dir()
	made, _ := b.make(api.Dir)
	for _, ino := range []int{1, d, made} {
		for _, v := range numbers {
			// ErrIsDir comes ahead of ErrSpace and ErrArg.
			expect(t, b.last, b.write(ino, v, 1, 1), api.ErrIsDir)
			expect(t, b.last, b.write(ino, 0, v, 1), api.ErrIsDir)
			expect(t, b.last, b.write(ino, 0, 1, v), api.ErrIsDir)
			expect(t, b.last, b.truncate(ino, v), api.ErrIsDir)
			expect(t, b.last, b.move(ino, nil, v), api.ErrIsDir)
			expect(t, b.last, b.move(ino, moves(move(v, v, v, v)), v), api.ErrIsDir)
		}
	}
}

// full is a file that has as many parts as there may be, of one byte each, with holes between them; the k-th of address k.
func full(b *both) int {
	b.t.Helper()
	f := b.file()
	for k := range maxParts {
		if err := b.write(f, 2*k, 1, k); err != api.OK {
			b.t.Fatalf("%s: %v", b.last, err)
		}
	}
	return f
}

// P20.3: a Write that would be more parts than there may be changes nothing; one that is no more is done.
func TestWriteMany(t *testing.T) {
	b := newBoth(t)
	f := full(b)
	was := b.x.Parts(f)
	size := 2*maxParts - 1
	for _, at := range [][2]int{{2*maxParts - 1, 1}, {1, 1}, {51, 1}, {1000, 9}, {2 * maxParts, 1}, {maxFile - 1, 1}, {maxFile - maxWrite, maxWrite}} {
		expect(t, b.last, b.write(f, at[0], at[1], 500), api.ErrSpace)
		expectParts(t, b.x, f, was...)
		expectStat(t, b.x, f, api.Stat{Ino: f, Kind: api.File, Links: 1, Size: size}, 0)
	}
	// What no address is, is told ahead of what there would be too many of.
	expect(t, b.last, b.write(f, 1000, 1, -1), api.ErrArg)
	expect(t, "over one of them", b.write(f, 4, 1, 500), api.OK)
	expect(t, "longer", b.write(f, 4, 2, 500), api.OK)
	expect(t, "over two of them", b.write(f, 0, 3, 501), api.OK)
	if got := len(b.x.Parts(f)); got != maxParts-1 {
		t.Errorf("there are %d parts", got)
	}
	expect(t, "one more again", b.write(f, maxFile-1, 1, 5), api.OK)
	expect(t, "and one too many", b.write(f, maxFile-3, 1, 5), api.ErrSpace)
	expectStat(t, b.x, f, api.Stat{Ino: f, Kind: api.File, Links: 1, Size: maxFile}, 0)
}

// P20.3: a Write into one part makes it three.
func TestWriteInside(t *testing.T) {
	b := newBoth(t)
	f := b.file()
	b.write(f, 0, maxWrite, 1)
	for k := range (maxParts - 1) / 2 {
		expect(t, b.last, b.write(f, 10+10*k, 1, 2), api.OK)
	}
	if got := len(b.x.Parts(f)); got != maxParts-1 {
		t.Fatalf("there are %d parts", got)
	}
	expect(t, "two more", b.write(f, 1000, 1, 2), api.ErrSpace)
	expect(t, "one more", b.write(f, maxWrite-1, 1, 2), api.OK)
	expect(t, "two more", b.write(f, 1000, 1, 2), api.ErrSpace)
	expect(t, "one more", b.write(f, maxWrite+1, 1, 2), api.ErrSpace)
	expect(t, "one that is longer", b.write(f, 300, 21, 2), api.OK)
}

// P20.3: to less, to more, to the same, to 0, to the most
func TestTruncate(t *testing.T) {
	b := newBoth(t)
	f := b.file()
	b.write(f, 0, 10, 5)
	b.write(f, 20, 10, 6)
	for _, c := range []struct {
		size int
		want []api.Part
	}{
		{30, parts(part(0, 10, 5, 0), part(20, 10, 6, 0))},
		{31, parts(part(0, 10, 5, 0), part(20, 10, 6, 0))},
		{maxFile, parts(part(0, 10, 5, 0), part(20, 10, 6, 0))},
		{30, parts(part(0, 10, 5, 0), part(20, 10, 6, 0))},
		{29, parts(part(0, 10, 5, 0), part(20, 9, 6, 0))},
		{21, parts(part(0, 10, 5, 0), part(20, 1, 6, 0))},
		{20, parts(part(0, 10, 5, 0))},
		{30, parts(part(0, 10, 5, 0))},
		{10, parts(part(0, 10, 5, 0))},
		{9, parts(part(0, 9, 5, 0))},
		{1, parts(part(0, 1, 5, 0))},
		{0, nil},
		{0, nil},
		{5, nil},
		{maxFile - 1, nil},
		{0, nil},
	} {
		expect(t, b.last, b.truncate(f, c.size), api.OK)
		expectParts(t, b.x, f, c.want...)
		expectStat(t, b.x, f, api.Stat{Ino: f, Kind: api.File, Links: 1, Size: c.size}, 0)
	}
}

// P20.3: sizes that are none
func TestTruncateSpace(t *testing.T) {
	b := newBoth(t)
	f := b.file()
	b.write(f, 0, 10, 5)
	for _, size := range numbers {
		if from(size, 0, maxFile) {
			continue
		}
		expect(t, b.last, b.truncate(f, size), api.ErrSpace)
		expectParts(t, b.x, f, part(0, 10, 5, 0))
		expectStat(t, b.x, f, api.Stat{Ino: f, Kind: api.File, Links: 1, Size: 10}, 0)
	}
}

// P20.3: what was cut off and made longer again is a hole; what is written behind the size leaves one.
func TestHoles(t *testing.T) {
	b := newBoth(t)
	f := b.file()
	b.write(f, 0, 100, 5)
	b.truncate(f, 40)
	b.truncate(f, 100)
	expectParts(t, b.x, f, part(0, 40, 5, 0))
	b.write(f, 60, 10, 6)
	expectParts(t, b.x, f, part(0, 40, 5, 0), part(60, 10, 6, 0))
	expectStat(t, b.x, f, api.Stat{Ino: f, Kind: api.File, Links: 1, Size: 100}, 0)
	b.truncate(f, 0)
	b.write(f, 200, 1, 7)
	expectParts(t, b.x, f, part(200, 1, 7, 0))
	expectStat(t, b.x, f, api.Stat{Ino: f, Kind: api.File, Links: 1, Size: 201}, 0)
}

// P20.3: a file of as many parts as there may be is cut, too.
func TestTruncateMany(t *testing.T) {
	b := newBoth(t)
	f := full(b)
	for _, size := range []int{maxFile, 2*maxParts - 1, 2*maxParts - 2, 63, 62, 1, 0} {
		expect(t, b.last, b.truncate(f, size), api.OK)
		if got, want := len(b.x.Parts(f)), min(maxParts, (size+1)/2); got != want {
			t.Errorf("behind %s there are %d parts, not %d", b.last, got, want)
		}
	}
}

// P20.3: no moves, one, several in order; the size stays.
func TestMove(t *testing.T) {
	b := newBoth(t)
	f := b.file()
	b.write(f, 10, 20, 5)
	b.truncate(f, 50)
	for _, c := range []struct {
		l    []api.Move
		to   int
		want []api.Part
	}{
		{nil, 9, parts(part(10, 20, 5, 0))},
		{moves(), 9, parts(part(10, 20, 5, 0))},
		// no moves go nowhere
		{nil, -1, parts(part(10, 20, 5, 0))},
		{nil, maxAddr, parts(part(10, 20, 5, 0))},
		{moves(move(5, 0, 5, 100)), 9, parts(part(10, 5, 9, 100), part(15, 15, 5, 5))},
		// what none points to
		{moves(move(5, 0, 5, 0)), 11, parts(part(10, 5, 9, 100), part(15, 15, 5, 5))},
		{moves(move(5, 20, 1000, 0)), 11, parts(part(10, 5, 9, 100), part(15, 15, 5, 5))},
		{moves(move(9, 105, 100, 0), move(9, 0, 100, 0), move(4, 0, maxWrite, 0), move(6, 0, maxWrite, 0)), 11, parts(part(10, 5, 9, 100), part(15, 15, 5, 5))},
		{moves(move(5, 5, 5, 105), move(5, 10, 20, 110)), 9, parts(part(10, 20, 9, 100))},
		// the second one moves what the first one moved
		{moves(move(9, 100, 10, 0), move(12, 0, 4, 50)), 12, parts(part(10, 4, 12, 50), part(14, 6, 12, 4), part(20, 10, 9, 110))},
		{moves(move(12, 50, 4, 3), move(12, 4, 1, 500)), 12, parts(part(10, 1, 12, 3), part(11, 1, 12, 500), part(12, 2, 12, 5), part(14, 1, 12, 500), part(15, 5, 12, 5), part(20, 10, 9, 110))},
		// all that points there, wherever it lies
		{moves(move(12, 500, 1, 7)), 0, parts(part(10, 1, 12, 3), part(11, 1, 0, 7), part(12, 2, 12, 5), part(14, 1, 0, 7), part(15, 5, 12, 5), part(20, 10, 9, 110))},
		// to itself
		{moves(move(9, 0, maxWrite, 0)), 9, parts(part(10, 1, 12, 3), part(11, 1, 0, 7), part(12, 2, 12, 5), part(14, 1, 0, 7), part(15, 5, 12, 5), part(20, 10, 9, 110))},
		{moves(move(0, 7, 1, 0), move(12, 5, 2, 1), move(12, 3, 1, 0), move(9, 110, 10, 0)), maxAddr - 1, parts(part(10, 1, maxAddr-1, 0), part(11, 3, maxAddr-1, 0), part(14, 3, maxAddr-1, 0), part(17, 3, 12, 7), part(20, 10, maxAddr-1, 0))},
	} {
		expect(t, b.last, b.move(f, c.l, c.to), api.OK)
		expectParts(t, b.x, f, c.want...)
		expectStat(t, b.x, f, api.Stat{Ino: f, Kind: api.File, Links: 1, Size: 50}, 0)
	}
}

// P20.3: of the file that it names alone
func TestMoveAlone(t *testing.T) {
	b := newBoth(t)
	f, g := b.file(), b.file()
	b.write(f, 0, 10, 5)
	b.write(g, 0, 10, 5)
	expect(t, "Move", b.move(f, moves(move(5, 0, 10, 20)), 7), api.OK)
	expectParts(t, b.x, f, part(0, 10, 7, 20))
	expectParts(t, b.x, g, part(0, 10, 5, 0))
}

// badMoves are moves that are none.
func badMoves() []api.Move {
	var l []api.Move
	for _, v := range numbers {
		if !from(v, 0, maxAddr-1) {
			l = append(l, move(v, 0, 1, 0))
		}
		if !from(v, 0, maxWrite-1) {
			l = append(l, move(5, v, 1, 0), move(5, 0, 1, v))
		}
		if !from(v, 1, maxWrite) {
			l = append(l, move(5, 0, v, 0))
		}
	}
	return append(l, move(5, 1, maxWrite, 0), move(5, 0, maxWrite, 1), move(5, maxWrite-1, 2, 0), move(5, 0, 2, maxWrite-1), move(5, 1, math.MaxInt, 0), move(5, 0, math.MaxInt, 1), move(5, math.MaxInt, math.MaxInt, math.MaxInt), move(5, -1, -1, -1), move(5, -5, 10, 0), move(5, 0, 10, -5), move(5, math.MaxInt-5, 10, 0), move(5, 0, 10, math.MaxInt-5))
}

// P20.3: one that falls, alone and ahead of and behind others that go: nothing changes.
func TestMoveFalls(t *testing.T) {
	b := newBoth(t)
	f := b.file()
	b.write(f, 10, 20, 5)
	b.write(f, 40, 20, 6)
	good := []api.Move{move(5, 0, 5, 100), move(6, 0, 20, 200), move(5, 5, 15, 105)}
	for _, m := range badMoves() {
		for _, l := range [][]api.Move{{m}, {m, good[0]}, {good[0], m}, {good[0], good[1], m}, {good[0], good[1], good[2], m}, {good[0], m, good[1]}, {m, m}} {
			expect(t, b.last, b.move(f, l, 9), api.ErrArg)
			expectParts(t, b.x, f, part(10, 20, 5, 0), part(40, 20, 6, 0))
		}
	}
	for _, to := range numbers {
		if from(to, 0, maxAddr-1) {
			continue
		}
		expect(t, b.last, b.move(f, good[:1], to), api.ErrArg)
		expect(t, b.last, b.move(f, moves(move(700, 0, 1, 0)), to), api.ErrArg)
		expectParts(t, b.x, f, part(10, 20, 5, 0), part(40, 20, 6, 0))
	}
	expect(t, "all of them", b.move(f, good, 9), api.OK)
	expectParts(t, b.x, f, part(10, 20, 9, 100), part(40, 20, 9, 200))
}

// P20.3: more parts than there may be are ErrSpace, on the way, too, and nothing changes.
func TestMoveMany(t *testing.T) {
	b := newBoth(t)
	f := full(b)
	b.write(f, 0, 3, 700)
	b.write(f, maxFile-10, 10, 701)
	if got := len(b.x.Parts(f)); got != maxParts {
		t.Fatalf("there are %d parts", got)
	}
	was := b.x.Parts(f)
	for _, l := range [][]api.Move{
		{move(701, 0, 5, 0)}, {move(701, 9, 1, 0)}, {move(701, 3, 2, 0)},
		{move(700, 0, 3, 50), move(701, 0, 5, 0)},
		// a later one would make them fewer again
		{move(701, 0, 5, 0), move(701, 5, 5, 5)},
		{move(701, 3, 2, 0), move(9, 0, 1, 0), move(701, 0, 10, 0)},
		// what is told first is what falls first
		{move(701, 0, 5, 0), {}},
	} {
		expect(t, b.last, b.move(f, l, 900), api.ErrSpace)
		expectParts(t, b.x, f, was...)
	}
	expect(t, "one that is none ahead of one too many", b.move(f, moves(move(9, 0, 0, 0), move(701, 0, 5, 0)), 900), api.ErrArg)
	expectParts(t, b.x, f, was...)
	expect(t, "as many as there were", b.move(f, moves(move(701, 0, 10, 0), move(700, 0, 3, 50)), 900), api.OK)
	if got := len(b.x.Parts(f)); got != maxParts {
		t.Errorf("there are %d parts", got)
	}
	// Of these two the first one makes room for the second.
	b.truncate(f, 3)
	b.write(f, 5, 1, 3)
	b.write(f, 6, 1, 4)
	for k := len(b.x.Parts(f)); k < maxParts; k++ {
		b.write(f, 100+2*k, 1, 800)
	}
	was = b.x.Parts(f)
	expect(t, "room is made too late", b.move(f, moves(move(900, 50, 1, 0), move(3, 0, 1, 20), move(4, 0, 1, 21)), 901), api.ErrSpace)
	expectParts(t, b.x, f, was...)
	expect(t, "room is made in time", b.move(f, moves(move(3, 0, 1, 20), move(4, 0, 1, 21), move(900, 50, 1, 0)), 901), api.OK)
	if got := len(b.x.Parts(f)); got != maxParts {
		t.Errorf("there are %d parts", got)
	}
}

// P20.3: of what went nothing is left for those that come later.
func TestNothingLeft(t *testing.T) {
	b := newBoth(t)
	for range 5 {
		f := b.file()
		b.open(f, 1)
		b.write(f, 0, 100, 5)
		b.link(f, -1)
		b.write(f, 50, 100, 6)
		expectParts(t, b.x, f, part(0, 50, 5, 0), part(50, 100, 6, 0))
		b.open(f, -1)
		expect(t, "Write", b.write(f, 0, 1, 1), api.ErrNone)
		expect(t, "Truncate", b.truncate(f, 0), api.ErrNone)
		expect(t, "Move", b.move(f, nil, 0), api.ErrNone)
		expectParts(t, b.x, b.file())
	}
}
