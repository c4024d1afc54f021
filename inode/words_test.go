package inode_test

import (
	"fmt"
	"math"
	"slices"
	"testing"

	"escheat/api"
	"escheat/inode"
)

// The words of the chapter, told in another way than the program's: inodes stand in a list as they were made, and a file is its bytes, each with where its data lie.

const (
	maxInodes = 64
	maxLinks  = 8
	maxOpens  = 128
	maxFile   = 8192
	maxWrite  = 1024
	maxParts  = 64
	maxAddr   = 16384
	lastNext  = 2147483647
)

// numbers are whole numbers at the edges of all bounds, and far beyond.
var numbers = []int{
	math.MinInt, math.MinInt + 1, math.MinInt + maxFile, -1 << 62, -1 << 32, -1<<32 + 1, -maxFile, -3, -2, -1, 0, 1, 2, 3, 4, maxLinks, maxLinks + 1, maxInodes, maxInodes + 1, maxOpens, maxOpens + 1,
	maxWrite - 1, maxWrite, maxWrite + 1, maxFile - maxWrite, maxFile - maxWrite + 1, maxFile - 1, maxFile, maxFile + 1, maxAddr - 1, maxAddr, maxAddr + 1,
	lastNext - 1, lastNext, lastNext + 1, 1 << 32, 1<<32 + 1, 1<<32 + 2, 1 << 62, math.MaxInt - maxFile, math.MaxInt - maxWrite, math.MaxInt - 1, math.MaxInt,
}

// source is where a byte's data lie; hole, if it has none.
type source struct{ addr, from int }

var hole = source{-1, 0}

// node is an inode: a file has as many bytes as its size, and its parts are told from them.
type node struct {
	ino, kind, links, opens int
	bytes                   []source
	parts                   []api.Part
}

// words are the inodes by rising numbers, as those are given.
type words struct {
	nodes []node
	next  int
}

func newWords() *words {
	return &words{nodes: []node{{ino: 1, kind: api.Dir, links: 1}}, next: 2}
}

func from(v, least, most int) bool { return v >= least && v <= most }

// together tells if a and b, and their sum, are from 0 on, and at most most.
func together(a, b, most int) bool {
	return from(a, 0, most) && from(b, 0, most) && a+b <= most
}

func part(off, n, addr, from int) api.Part {
	return api.Part{Off: off, Len: n, Addr: addr, From: from}
}

func parts(l ...api.Part) []api.Part { return l }

func move(addr, from, n, at int) api.Move {
	return api.Move{Addr: addr, From: from, Len: n, At: at}
}

func moves(l ...api.Move) []api.Move { return l }

// runs are the parts that bytes are told as.
func runs(bytes []source) []api.Part {
	var l []api.Part
	for at := 0; at < len(bytes); {
		x, n := bytes[at], 1
		for at+n < len(bytes) && x != hole && bytes[at+n] == (source{x.addr, x.from + n}) {
			n++
		}
		if x != hole {
			l = append(l, part(at, n, x.addr, x.from))
		}
		at += n
	}
	return l
}

// holes are n bytes that have no data.
func holes(n int) []source { return slices.Repeat([]source{hole}, n) }

// bytesOf are the bytes of a file of those parts; false, if the parts are not good, or some lie behind size.
func bytesOf(l []api.Part, size int) ([]source, bool) {
	bytes := holes(size)
	if len(l) > maxParts {
		return nil, false
	}
	for _, x := range l {
		if x.Len < 1 || !together(x.Off, x.Len, size) || !together(x.From, x.Len, maxWrite) || !from(x.Addr, 0, maxAddr-1) {
			return nil, false
		}
		for k := range x.Len {
			bytes[x.Off+k] = source{x.Addr, x.From + k}
		}
	}
	// What does not rise, lies over another one or is not joined is told otherwise.
	return bytes, slices.Equal(runs(bytes), l)
}

func (w *words) find(ino int) *node {
	for i := range w.nodes {
		if w.nodes[i].ino == ino {
			return &w.nodes[i]
		}
	}
	return nil
}

func (w *words) make(kind int) (int, api.Errno) {
	if kind != api.Dir && kind != api.File {
		return 0, api.ErrArg
	}
	if len(w.nodes) == maxInodes {
		return 0, api.ErrSpace
	}
	w.nodes = append(w.nodes, node{ino: w.next, kind: kind})
	w.next++
	return w.next - 1, api.OK
}

func (w *words) link(ino, by int) api.Errno {
	x := w.find(ino)
	if x == nil {
		return api.ErrNone
	}
	if by != 1 && by != -1 || ino == 1 {
		return api.ErrArg
	}
	if by == 1 && x.links == maxLinks || by == -1 && x.links == 0 {
		return api.ErrLinks
	}
	x.links += by
	w.leave(by, x)
	return api.OK
}

func (w *words) open(ino, by int) api.Errno {
	x := w.find(ino)
	if x == nil {
		return api.ErrNone
	}
	if by != 1 && by != -1 {
		return api.ErrArg
	}
	if x.kind == api.Dir {
		return api.ErrIsDir
	}
	if by == 1 && x.opens == maxOpens || by == -1 && x.opens == 0 {
		return api.ErrMany
	}
	x.opens += by
	w.leave(by, x)
	return api.OK
}

// leave lets x go, if it just lost its last one.
func (w *words) leave(by int, x *node) {
	if by == -1 && x.links+x.opens == 0 {
		ino := x.ino
		w.nodes = slices.DeleteFunc(w.nodes, func(y node) bool { return y.ino == ino })
	}
}

// file is a file; an error, if there is none of that number.
func (w *words) file(ino int) (*node, api.Errno) {
	x := w.find(ino)
	if x == nil {
		return nil, api.ErrNone
	}
	if x.kind != api.File {
		return nil, api.ErrIsDir
	}
	return x, api.OK
}

// become is x of other bytes; x stays, if they have too many parts.
func (x *node) become(bytes []source) api.Errno {
	l := runs(bytes)
	if len(l) > maxParts {
		return api.ErrSpace
	}
	x.bytes, x.parts = bytes, l
	return api.OK
}

func (w *words) write(ino, off, n, addr int) api.Errno {
	x, err := w.file(ino)
	if err != api.OK {
		return err
	}
	if !from(n, 1, maxWrite) || !together(off, n, maxFile) {
		return api.ErrSpace
	}
	if !from(addr, 0, maxAddr-1) {
		return api.ErrArg
	}
	bytes := append(slices.Clone(x.bytes), holes(max(0, off+n-len(x.bytes)))...)
	for k := range n {
		bytes[off+k] = source{addr, k}
	}
	return x.become(bytes)
}

func (w *words) truncate(ino, size int) api.Errno {
	x, err := w.file(ino)
	if err != api.OK {
		return err
	}
	if !from(size, 0, maxFile) {
		return api.ErrSpace
	}
	kept := slices.Clone(x.bytes[:min(size, len(x.bytes))])
	return x.become(append(kept, holes(size-len(kept))...))
}

func (w *words) move(ino int, l []api.Move, to int) api.Errno {
	x, err := w.file(ino)
	if err != api.OK {
		return err
	}
	made := node{bytes: x.bytes, parts: x.parts}
	for _, m := range l {
		if m.Len < 1 || !together(m.From, m.Len, maxWrite) || !together(m.At, m.Len, maxWrite) || !from(m.Addr, 0, maxAddr-1) || !from(to, 0, maxAddr-1) {
			return api.ErrArg
		}
		bytes := slices.Clone(made.bytes)
		for at, b := range bytes {
			if b.addr == m.Addr && from(b.from, m.From, m.From+m.Len-1) {
				bytes[at] = source{to, b.from - m.From + m.At}
			}
		}
		if err := made.become(bytes); err != api.OK {
			return err
		}
	}
	return x.become(made.bytes)
}

// isInode tells if x is within the bounds of its kind, and what its bytes are.
func isInode(x inode.Inode) ([]source, bool) {
	if !from(x.Links, 0, maxLinks) || !from(x.Opens, 0, maxOpens) || x.Links+x.Opens == 0 {
		return nil, false
	}
	if x.Kind == api.Dir {
		return nil, x.Opens == 0 && x.Size == 0 && len(x.Parts) == 0
	}
	if x.Kind != api.File || !from(x.Size, 0, maxFile) {
		return nil, false
	}
	return bytesOf(x.Parts, x.Size)
}

func (w *words) load(l []inode.Inode, next int) api.Errno {
	made := words{next: next}
	if len(l) == 0 || len(l) > maxInodes || !from(next, 2, lastNext) {
		return api.ErrForm
	}
	for i, x := range l {
		bytes, ok := isInode(x)
		isFirst := x.Ino == 1 && x.Kind == api.Dir && x.Links == 1 && x.Opens == 0
		if !ok || isFirst != (i == 0) || x.Ino >= next || i > 0 && x.Ino <= l[i-1].Ino {
			return api.ErrForm
		}
		made.nodes = append(made.nodes, node{x.Ino, x.Kind, x.Links, x.Opens, bytes, slices.Clone(x.Parts)})
	}
	*w = made
	return api.OK
}

func (w *words) dump() []inode.Inode {
	var l []inode.Inode
	for _, x := range w.nodes {
		l = append(l, inode.Inode{Ino: x.ino, Kind: x.kind, Links: x.links, Opens: x.opens, Size: len(x.bytes), Parts: slices.Clone(x.parts)})
	}
	return l
}

// held tells if none is there that has neither links nor opens: then it may be loaded.
func (w *words) held() bool {
	return !slices.ContainsFunc(w.nodes, func(x node) bool { return x.links+x.opens == 0 })
}

func (w *words) copy() *words {
	c := words{next: w.next, nodes: slices.Clone(w.nodes)}
	for i := range c.nodes {
		c.nodes[i].bytes, c.nodes[i].parts = slices.Clone(c.nodes[i].bytes), slices.Clone(c.nodes[i].parts)
	}
	return &c
}

// short is something as a text that is not too long.
func short(v any) string { return fmt.Sprintf("%.400s", fmt.Sprint(v)) }

func sameInode(x, y inode.Inode) bool {
	return x.Ino == y.Ino && x.Kind == y.Kind && x.Links == y.Links && x.Opens == y.Opens && x.Size == y.Size && slices.Equal(x.Parts, y.Parts)
}

func sameDump(a, b []inode.Inode) bool { return slices.EqualFunc(a, b, sameInode) }

// both are a table and what the words say that it is: each call is done to both, and they are held against each other.
type both struct {
	t    *testing.T
	x    *inode.Table
	w    *words
	last string
}

func newBoth(t *testing.T) *both {
	b := &both{t: t, x: inode.New(), w: newWords(), last: "New"}
	b.look()
	return b
}

func (b *both) make(kind int) (int, api.Errno) {
	b.t.Helper()
	b.last = fmt.Sprintf("Make(%d)", kind)
	ino, err := b.x.Make(kind)
	wantIno, want := b.w.make(kind)
	if ino != wantIno {
		b.t.Fatalf("%s = %d, %v, not %d", b.last, ino, err, wantIno)
	}
	return ino, b.done(err, want)
}

func (b *both) link(ino, by int) api.Errno {
	b.t.Helper()
	b.last = fmt.Sprintf("Link(%d, %d)", ino, by)
	return b.done(b.x.Link(ino, by), b.w.link(ino, by))
}

func (b *both) open(ino, by int) api.Errno {
	b.t.Helper()
	b.last = fmt.Sprintf("Open(%d, %d)", ino, by)
	return b.done(b.x.Open(ino, by), b.w.open(ino, by))
}

func (b *both) write(ino, off, n, addr int) api.Errno {
	b.t.Helper()
	b.last = fmt.Sprintf("Write(%d, %d, %d, %d)", ino, off, n, addr)
	return b.done(b.x.Write(ino, off, n, addr), b.w.write(ino, off, n, addr))
}

func (b *both) truncate(ino, size int) api.Errno {
	b.t.Helper()
	b.last = fmt.Sprintf("Truncate(%d, %d)", ino, size)
	return b.done(b.x.Truncate(ino, size), b.w.truncate(ino, size))
}

func (b *both) move(ino int, l []api.Move, to int) api.Errno {
	b.t.Helper()
	b.last = fmt.Sprintf("Move(%d, %s, %d)", ino, short(l), to)
	return b.done(b.x.Move(ino, l, to), b.w.move(ino, l, to))
}

func (b *both) load(l []inode.Inode, next int) api.Errno {
	b.t.Helper()
	b.last = fmt.Sprintf("Load(%s, %d)", short(l), next)
	return b.done(b.x.Load(l, next), b.w.load(l, next))
}

// again is a table that was made anew, and goes on with what this one is.
func (b *both) again() {
	b.t.Helper()
	b.last = "Load of Dump"
	if x := inode.New(); b.done(x.Load(b.x.Dump(), b.x.Next()), b.w.load(b.w.dump(), b.w.next)) == api.OK {
		b.x = x
		b.look()
	}
}

// done holds errors against each other, and all that can be asked.
func (b *both) done(err, want api.Errno) api.Errno {
	b.t.Helper()
	if err != want {
		b.t.Fatalf("%s = %v, not %v", b.last, err, want)
	}
	b.look()
	return err
}

// look holds all that can be asked of the table against the words.
func (b *both) look() {
	b.t.Helper()
	var all []int
	for _, x := range b.w.nodes {
		all = append(all, x.ino)
	}
	if got := b.x.All(); !slices.Equal(got, all) {
		b.t.Fatalf("behind %s All is %v, not %v", b.last, got, all)
	}
	if got := b.x.Next(); got != b.w.next {
		b.t.Fatalf("behind %s Next is %d, not %d", b.last, got, b.w.next)
	}
	if got, want := b.x.Dump(), b.w.dump(); !sameDump(got, want) {
		b.t.Fatalf("behind %s Dump is %s, not %s", b.last, short(got), short(want))
	}
	for _, ino := range append(all, -1, 0, 2, 3, b.w.next-1, b.w.next, math.MinInt, math.MaxInt) {
		b.lookAt(ino)
	}
}

func (b *both) lookAt(ino int) {
	b.t.Helper()
	x, want, there := node{}, api.Stat{}, b.w.find(ino) != nil
	if there {
		x = *b.w.find(ino)
		want = api.Stat{Ino: ino, Kind: x.kind, Links: x.links, Size: len(x.bytes)}
	}
	if got, ok := b.x.Stat(ino); got != want || ok != there {
		b.t.Fatalf("behind %s Stat(%d) is %v, %v, not %v, %v", b.last, ino, got, ok, want, there)
	}
	if got := b.x.Opens(ino); got != x.opens {
		b.t.Fatalf("behind %s Opens(%d) is %d, not %d", b.last, ino, got, x.opens)
	}
	if got := b.x.Parts(ino); !slices.Equal(got, x.parts) {
		b.t.Fatalf("behind %s Parts(%d) is %s, not %s", b.last, ino, short(got), short(x.parts))
	}
}

// file is a new file with one link; so is dir a directory.
func (b *both) file() int { b.t.Helper(); return b.linked(api.File) }

func (b *both) dir() int { b.t.Helper(); return b.linked(api.Dir) }

func (b *both) linked(kind int) int {
	b.t.Helper()
	ino, err := b.make(kind)
	if err != api.OK || b.link(ino, 1) != api.OK {
		b.t.Fatalf("there is no new one of kind %d: %v", kind, err)
	}
	return ino
}

// expect holds an error against one that is told by hand.
func expect(t *testing.T, what string, got, want api.Errno) {
	t.Helper()
	if got != want {
		t.Errorf("%s: %v, not %v", what, got, want)
	}
}

func expectParts(t *testing.T, x *inode.Table, ino int, want ...api.Part) {
	t.Helper()
	if got := x.Parts(ino); !slices.Equal(got, want) {
		t.Errorf("Parts(%d) is %s, not %s", ino, short(got), short(want))
	}
}

func expectStat(t *testing.T, x *inode.Table, ino int, want api.Stat, opens int) {
	t.Helper()
	if got, ok := x.Stat(ino); got != want || !ok || x.Opens(ino) != opens {
		t.Errorf("Stat(%d) is %v, %v, and Opens %d, not %v, %d", ino, got, ok, x.Opens(ino), want, opens)
	}
}

// expectNone holds that there is no such inode.
func expectNone(t *testing.T, x *inode.Table, ino int) {
	t.Helper()
	got, ok := x.Stat(ino)
	if got != (api.Stat{}) || ok || x.Opens(ino) != 0 || len(x.Parts(ino)) != 0 || slices.Contains(x.All(), ino) {
		t.Errorf("%d is there: %v, %v", ino, got, ok)
	}
}

func expectAll(t *testing.T, x *inode.Table, next int, want ...int) {
	t.Helper()
	if got := x.All(); !slices.Equal(got, want) || x.Next() != next {
		t.Errorf("All is %v, Next %d, not %v, %d", got, x.Next(), want, next)
	}
}
