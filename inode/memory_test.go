package inode_test

import (
	"math/rand"
	"runtime"
	"slices"
	"testing"

	"escheat/api"
	"escheat/inode"
)

// roomy is l with spare room, in which stands something.
func roomy[T any](l []T, something T) []T {
	return append(append(make([]T, 0, len(l)+9), l...), slices.Repeat([]T{something}, 9)...)[:len(l)]
}

// whole is a copy of l with its spare room.
func whole[T any](l []T) []T { return slices.Clone(l[:cap(l)]) }

// scribble writes over l, and its spare room.
func scribble[T any](l []T, something T) {
	l = l[:cap(l)]
	for i := range l {
		l[i] = something
	}
}

func badPart() api.Part { return part(-7, -7, -7, -7) }

// goodPart is one that would count, if spare room did.
func goodPart() api.Part { return part(5000, 7, 3, 0) }

// roomyTable is l with spare room, its parts too.
func roomyTable(l []inode.Inode) []inode.Inode {
	l = roomy(l, inode.Inode{Ino: 13, Kind: api.File, Links: 1})
	for i := range l {
		l[i].Parts = roomy(l[i].Parts, goodPart())
	}
	return l
}

// wholeTable is a copy of l with its spare room, its parts' too.
func wholeTable(l []inode.Inode) []inode.Inode {
	l = whole(l)
	for i := range l {
		l[i].Parts = whole(l[i].Parts)
	}
	return l
}

// scribbleTable writes over the parts of l, and over l, and over the spare room of all of them.
func scribbleTable(l []inode.Inode) {
	for _, x := range l {
		scribble(x.Parts, badPart())
	}
	scribble(l, inode.Inode{Ino: -7, Kind: -7, Links: -7, Opens: -7, Size: -7, Parts: parts(badPart())})
}

// P20.4: what Load is handed stays as it was, its spare room too; it may be written over, and the table is as it was.
func TestLoadHanded(t *testing.T) {
	spoilt := other(3, func(x *inode.Inode) { x.Opens = 0 })
	many := other(1, func(x *inode.Inode) { x.Parts, x.Size = dots(maxParts), maxFile })
	for _, was := range [][]inode.Inode{table(), spoilt, many, table()[:1], nil, table()[1:]} {
		b := newBoth(t)
		b.write(b.file(), 0, 5, 3)
		l := roomyTable(was)
		before := wholeTable(l)
		b.load(l, 13)
		for range 3 {
			after := wholeTable(l)
			if !sameDump(after, before) {
				t.Fatalf("it is %s, not %s", short(after), short(before))
			}
			f := b.w.nodes[len(b.w.nodes)-1].ino
			b.write(f, 3, 4, 9)
			b.write(3, 0, 20, 9)
			b.move(3, moves(move(9, 0, 5, 100)), 8)
			b.truncate(3, 9)
			b.open(3, 1)
			b.link(12, 1)
		}
		scribbleTable(l)
		b.last = "writing over what Load was handed"
		b.look()
	}
}

// P20.3: what Move is handed stays as it was, its spare room too; it may be written over, and spare room does not count.
func TestMoveHanded(t *testing.T) {
	b := newBoth(t)
	f := b.file()
	b.write(f, 0, 100, 5)
	for _, was := range [][]api.Move{nil, {move(5, 0, 10, 50)}, {move(5, 10, 10, 50), move(7, 50, 3, 9)}, {move(5, 20, 5, 9), {}}, {{}}, {move(5, 30, 5, 9), move(77, 0, 1, 0)}} {
		l := roomy(was, move(5, 0, maxWrite, 0))
		before := whole(l)
		b.move(f, l, 7)
		if !slices.Equal(whole(l), before) {
			t.Fatalf("it is %s, not %s", short(whole(l)), short(before))
		}
		scribble(l, move(-7, -7, -7, -7))
		b.last = "writing over what Move was handed"
		b.look()
	}
}

// P20.1, P20.4: what is told may be written over, its spare room too, and the table is as it was.
func TestToldOver(t *testing.T) {
	r := rand.New(rand.NewSource(206))
	b := newBoth(t)
	b.file()
	full(b)
	b.load(append(table(), inode.Inode{Ino: 20, Kind: api.File, Links: 1, Size: maxFile, Parts: dots(maxParts)}), 21)
	for range 300 {
		b.anyCall(r, 40)
		all := b.x.All()
		for _, ino := range all {
			scribble(b.x.Parts(ino), badPart())
		}
		scribbleTable(b.x.Dump())
		scribble(all, -7)
		b.last = "writing over what was told"
		b.look()
	}
}

// P20.1, P20.4: what was told ahead is as it was, whatever is called behind it.
func TestToldStays(t *testing.T) {
	r := rand.New(rand.NewSource(207))
	for range 40 {
		b := newBoth(t)
		for range 30 {
			b.anyCall(r, 40)
		}
		all, dump, ino := b.x.All(), b.x.Dump(), b.anyIno(r)
		l := b.x.Parts(ino)
		wantAll, want, wantParts := whole(all), wholeTable(dump), whole(l)
		for range 30 {
			b.anyCall(r, 40)
		}
		b.load(table(), 13)
		if !slices.Equal(whole(all), wantAll) || !sameDump(wholeTable(dump), want) || !slices.Equal(whole(l), wantParts) {
			t.Fatalf("what was told ahead is otherwise: %v, %s, %v", all, short(dump), l)
		}
	}
}

// met counts how often each place in memory is met.
type met map[any]int

func (m met) parts(l []api.Part) {
	l = l[:cap(l)]
	for i := range l {
		m[&l[i]]++
	}
}

func (m met) table(l []inode.Inode) {
	l = l[:cap(l)]
	for i := range l {
		m[&l[i]]++
		m.parts(l[i].Parts)
	}
}

// P20.1, P20.4: no two lists that were told share memory, and none with what was handed in.
func TestNoneShared(t *testing.T) {
	m := met{}
	l := roomyTable(other(3, func(x *inode.Inode) { x.Parts, x.Size = dots(maxParts), maxFile }))
	m.table(l)
	for range 2 {
		x := inode.New()
		expect(t, "Load", x.Load(l, 13), api.OK)
		for range 2 {
			for _, ino := range x.All() {
				m.parts(x.Parts(ino))
			}
			m.table(x.Dump())
			all := x.All()
			all = all[:cap(all)]
			for i := range all {
				m[&all[i]]++
			}
		}
		x.Truncate(3, maxFile)
		x.Move(3, nil, 0)
		m.parts(x.Parts(3))
	}
	for place, times := range m {
		if times > 1 {
			t.Fatalf("%p is met %d times", place, times)
		}
	}
}

// P20.1 to P20.4: two tables know nothing of each other, new ones and such as were loaded with the same list.
func TestApart(t *testing.T) {
	l := table()
	b, c := newBoth(t), newBoth(t)
	calls := func() {
		b.file()
		b.write(3, 0, 20, 9)
		b.truncate(12, 100)
		b.link(9, -1)
		c.open(12, 1)
		c.move(3, moves(move(6, 0, 3, 4)), 77)
		b.dir()
		b.look()
		c.look()
	}
	calls()
	b.load(l, 13)
	c.load(l, 13)
	calls()
	c.load(b.x.Dump(), b.x.Next())
	calls()
	if !sameDump(l, table()) {
		t.Errorf("what both were handed is %s", short(l))
	}
}

// P20.1 to P20.4: asking changes nothing, and the same is told however often it is asked.
func TestAsking(t *testing.T) {
	b := newBoth(t)
	b.load(table(), 13)
	for range 50 {
		b.look()
	}
}

// inUse is how many bytes are in use.
func inUse() int {
	var m runtime.MemStats
	runtime.GC()
	runtime.GC()
	runtime.ReadMemStats(&m)
	return int(m.HeapAlloc)
}

// P20.2, P20.3: nothing is kept of inodes that went, nor of what was done.
func TestNothingKept(t *testing.T) {
	x, before := inode.New(), inUse()
	for range 20000 {
		ino, _ := x.Make(api.File)
		x.Link(ino, 1)
		x.Write(ino, 5, 3, 1)
		x.Write(ino, 2, 4, 2)
		x.Truncate(ino, 6)
		x.Link(ino, -1)
	}
	if more := inUse() - before; more > 1<<18 {
		t.Errorf("there are %d bytes", more)
	}
	expectAll(t, x, 20002, 1)
}

// P20.4: nothing of what Load was handed is held, though the parts are few and their spare room is great, or there are none; nor of what was loaded ahead.
func TestLoadHolds(t *testing.T) {
	x, before := inode.New(), inUse()
	for range 8 {
		great := func(n int) []api.Part { return append(make([]api.Part, 0, 1<<15), dots(n)...) }
		l := []inode.Inode{rootOf()}
		for i := range 12 {
			l = append(l, inode.Inode{Ino: 2 + i, Kind: 1 + i%2, Links: 1, Size: i % 2 * 100, Parts: great(i % 2 * i)})
		}
		expect(t, "Load", x.Load(l, 99), api.OK)
	}
	if more := inUse() - before; more > 1<<18 {
		t.Errorf("there are %d bytes", more)
	}
	if len(x.All()) != 13 {
		t.Errorf("All is %v", x.All())
	}
}
