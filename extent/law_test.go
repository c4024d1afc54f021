package extent_test

import (
	"math/rand"
	"slices"
	"testing"

	"escheat/api"
	"escheat/extent"
)

// disk is the data of addresses, and a file whose parts point to them: each byte of data is a number of its own, and
// bytes are what the file should be read as, -1 where nothing was put.
type disk struct {
	t     *testing.T
	data  map[int][]int
	bytes []int
	made  int
	l     []api.Part
}

func newDisk(t *testing.T) *disk {
	return &disk{t: t, data: map[int][]int{}, bytes: slices.Repeat([]int{-1}, maxFile), made: 1}
}

// address is the data of addr, which are made where there are none yet.
func (d *disk) address(addr int) []int {
	if d.data[addr] == nil {
		for range maxWrite {
			d.data[addr] = append(d.data[addr], d.made)
			d.made++
		}
	}
	return d.data[addr]
}

func (d *disk) put(x api.Part) api.Errno {
	d.t.Helper()
	next, err := extent.Put(d.l, x)
	if err == api.OK {
		copy(d.bytes[x.Off:behind(x)], d.address(x.Addr)[x.From:])
	} else if err != api.ErrMany {
		d.t.Errorf("Put of %v: %v", x, err)
	}
	d.keep(next, err)
	return err
}

func (d *disk) cut(size int) {
	d.t.Helper()
	copy(d.bytes[min(max(size, 0), maxFile):], slices.Repeat([]int{-1}, maxFile))
	d.keep(extent.Cut(d.l, size), api.OK)
}

// move copies data to an address that has none yet, or to such of it as nobody points to, and moves: all is read as it was.
func (d *disk) move(m api.Move, to int) api.Errno {
	d.t.Helper()
	copy(d.address(to)[m.At:m.At+m.Len], slices.Clone(d.address(m.Addr)[m.From:]))
	next, err := extent.Move(d.l, m, to)
	if err != api.OK && err != api.ErrMany {
		d.t.Errorf("Move of %v to %d: %v", m, to, err)
	}
	d.keep(next, err)
	return err
}

// keep goes on with next; with an error there is none, and the file is what it was.
func (d *disk) keep(next []api.Part, err api.Errno) {
	d.t.Helper()
	if err == api.OK {
		d.l = next
	}
	if !extent.Good(d.l) || err != api.OK && len(next) != 0 {
		d.t.Fatalf("%v: %v, %v", err, short(next), short(d.l))
	}
}

// read holds that a plan tells the bytes of that stretch, piece by piece and without a gap.
func (d *disk) read(off, n int) {
	d.t.Helper()
	at := off
	for _, x := range extent.Plan(d.l, off, n) {
		if x.Off != at || x.Len < 1 {
			d.t.Fatalf("at %d the plan from %d on goes on with %v", at, off, x)
		}
		for k := range x.Len {
			got := -1
			if x.Addr != -1 {
				got = d.address(x.Addr)[x.From+k]
			}
			if got != d.bytes[at+k] {
				d.t.Fatalf("byte %d is read as %d, not %d, of %s", at+k, got, d.bytes[at+k], short(d.l))
			}
		}
		at += x.Len
	}
	if at != off+n {
		d.t.Fatalf("the plan from %d on ends at %d, not %d", off, at, off+n)
	}
}

// readAll is read of the whole file; where its last byte is that is none of a hole, it ends.
func (d *disk) readAll() {
	d.t.Helper()
	d.read(0, maxFile)
	end := maxFile
	for end > 0 && d.bytes[end-1] == -1 {
		end--
	}
	expectEnd(d.t, d.l, end)
}

// P19.5: by hand: a write over others, a cut, a move
func TestLaw(t *testing.T) {
	d := newDisk(t)
	d.readAll()
	for _, x := range []api.Part{part(0, 10, 1, 0), part(3, 5, 2, 0), part(5, 1, 3, 0), part(20, maxWrite, 4, 0), part(8, 15, 1, 8), part(maxFile-9, 9, 5, 7), part(0, 4, 1, 0)} {
		d.put(x)
		d.readAll()
	}
	d.move(api.Move{Addr: 1, From: 0, Len: 23, At: 100}, 9)
	d.readAll()
	d.move(api.Move{Addr: 4, From: 500, Len: 100, At: 0}, 9)
	d.readAll()
	d.cut(600)
	d.readAll()
	d.put(part(maxFile-9, 5, 5, 7))
	d.readAll()
	for _, x := range d.l {
		if x.Addr == 1 {
			t.Errorf("%v points to what was moved", x)
		}
	}
}

// P19.5: a byte is where it was put last, whatever was put ahead, and in between cut off.
func TestLastCounts(t *testing.T) {
	r := rand.New(rand.NewSource(195))
	for range 60 {
		d, room := newDisk(t), anyOf(r, 12, 100, 1000, maxFile)
		for range 60 {
			if r.Intn(12) == 0 {
				d.cut(r.Intn(room))
			} else {
				d.put(anyPart(r, room))
			}
			d.read(r.Intn(room), 1+r.Intn(9))
		}
		d.readAll()
	}
}

// P19.5: what is moved is read as it was, and all else lies as it lay: to an address of its own, with other data ahead of it or not.
func TestMovedIsReadAsItWas(t *testing.T) {
	r, moved := rand.New(rand.NewSource(196)), 0
	for range 150 {
		d, room := newDisk(t), anyOf(r, 12, 100, 1000, maxFile)
		for range r.Intn(40) {
			d.put(anyPart(r, room))
		}
		for k := range 10 {
			if len(d.l) == 0 {
				break
			}
			m, _ := anyMove(r, anyOf(r, d.l...))
			was := d.l
			if d.move(m, 9000+k) == api.OK {
				expectOthers(t, was, d.l, m)
				moved++
			}
			d.read(0, min(2*room, maxFile))
		}
		d.readAll()
	}
	if moved < 300 {
		t.Errorf("%d were moved", moved)
	}
}

// expectOthers holds that no part of l points to what m moves, and that what was elsewhere lies where it lay.
func expectOthers(t *testing.T, was, l []api.Part, m api.Move) {
	t.Helper()
	for _, x := range l {
		if x.Addr == m.Addr && max(x.From, m.From) < min(x.From+x.Len, m.From+m.Len) {
			t.Errorf("%v points to what %v moved", x, m)
		}
	}
	for _, x := range was {
		n := max(0, min(x.Len, m.From-x.From))
		if x.Addr != m.Addr {
			n = x.Len
		}
		if n > 0 && !slices.Equal(extent.Plan(l, x.Off, n), inside(parts(x), x.Off, x.Off+n)) {
			t.Errorf("of %v %d bytes lay where %v does not move", x, n, m)
		}
	}
}

// P19.5: all of several elder addresses is gathered into one, move behind move, as many bytes as it takes.
func TestGathered(t *testing.T) {
	r := rand.New(rand.NewSource(197))
	for range 100 {
		d := newDisk(t)
		for range 8 {
			d.put(part(r.Intn(500), 1+r.Intn(100), r.Intn(5), r.Intn(50)))
		}
		at := 0
		for _, x := range slices.Clone(d.l) {
			if at+x.Len > maxWrite {
				break
			}
			d.move(api.Move{Addr: x.Addr, From: x.From, Len: x.Len, At: at}, 77)
			at += x.Len
			d.readAll()
		}
		for _, x := range d.l {
			if x.Addr < 5 && at+x.Len <= maxWrite {
				t.Errorf("%v is left in %v", x, d.l)
			}
		}
	}
}
