package inode_test

import (
	"fmt"
	"math"
	"slices"
	"testing"

	"escheat/api"
	"escheat/inode"
)

// rootOf is the root as it is dumped.
func rootOf() inode.Inode { return inode.Inode{Ino: 1, Kind: api.Dir, Links: 1} }

// table is a list that is good with 13 as the next number.
func table() []inode.Inode {
	return []inode.Inode{
		rootOf(),
		{Ino: 3, Kind: api.File, Links: 2, Opens: 1, Size: 20, Parts: parts(part(3, 5, 6, 0), part(10, 10, 7, 50))},
		{Ino: 9, Kind: api.Dir, Links: 1},
		{Ino: 12, Kind: api.File, Opens: 3},
	}
}

// apart is l in new memory, with its parts.
func apart(l []inode.Inode) []inode.Inode {
	l = slices.Clone(l)
	for i := range l {
		l[i].Parts = slices.Clone(l[i].Parts)
	}
	return l
}

// other is table, of which one was changed.
func other(i int, turn func(x *inode.Inode)) []inode.Inode {
	l := table()
	turn(&l[i])
	return l
}

// expectLoad holds that of a new table and of one that has something l is told want; it is l then, or as it was.
func expectLoad(t *testing.T, what string, l []inode.Inode, next int, want api.Errno) {
	t.Helper()
	old := newBoth(t)
	old.write(old.file(), 5, 10, 77)
	for _, b := range []*both{newBoth(t), old} {
		was, wasNext := b.x.Dump(), b.x.Next()
		if err := b.load(l, next); err != want {
			t.Errorf("%s: %s, %d: %v, not %v", what, short(l), next, err, want)
		}
		if want == api.OK {
			was, wasNext = l, next
		}
		if got := b.x.Dump(); !sameDump(got, was) || b.x.Next() != wasNext {
			t.Errorf("%s: %s, %d: it is %s, %d", what, short(l), next, short(got), b.x.Next())
		}
	}
}

// P20.4, P20.5: it is what was loaded.
func TestLoad(t *testing.T) {
	x := inode.New()
	expect(t, "Load", x.Load(table(), 13), api.OK)
	expectAll(t, x, 13, 1, 3, 9, 12)
	expectStat(t, x, 1, api.Stat{Ino: 1, Kind: api.Dir, Links: 1}, 0)
	expectStat(t, x, 3, api.Stat{Ino: 3, Kind: api.File, Links: 2, Size: 20}, 1)
	expectStat(t, x, 9, api.Stat{Ino: 9, Kind: api.Dir, Links: 1}, 0)
	expectStat(t, x, 12, api.Stat{Ino: 12, Kind: api.File}, 3)
	expectParts(t, x, 3, part(3, 5, 6, 0), part(10, 10, 7, 50))
	for _, ino := range []int{0, 1, 2, 4, 9, 10, 11, 12, 13} {
		expectParts(t, x, ino)
	}
	if got := x.Dump(); !sameDump(got, table()) {
		t.Errorf("Dump: %v", got)
	}
	expect(t, "Load of the root alone", x.Load(table()[:1], 2), api.OK)
	expectAll(t, x, 2, 1)
	expectNone(t, x, 3)
}

// P20.4: lists that are good, each number at its least and greatest
func TestLoadEdges(t *testing.T) {
	for what, l := range map[string][]inode.Inode{
		"as it is":             table(),
		"the root alone":       {rootOf()},
		"empty lists":          other(0, func(x *inode.Inode) { x.Parts = parts() }),
		"empty lists of a dir": other(2, func(x *inode.Inode) { x.Parts = make([]api.Part, 0, 9) }),
		"Ino 2":                other(1, func(x *inode.Inode) { x.Ino = 2 }),
		"Ino 8 ahead of 9":     other(1, func(x *inode.Inode) { x.Ino = 8 }),
		"a dir":                other(3, func(x *inode.Inode) { x.Kind, x.Opens, x.Links = api.Dir, 0, 1 }),
		"a dir's links":        other(2, func(x *inode.Inode) { x.Links = maxLinks }),
		"links":                other(1, func(x *inode.Inode) { x.Links = maxLinks }),
		"no links":             other(1, func(x *inode.Inode) { x.Links = 0 }),
		"one link":             other(3, func(x *inode.Inode) { x.Links, x.Opens = 1, 0 }),
		"one open":             other(3, func(x *inode.Inode) { x.Opens = 1 }),
		"opens":                other(1, func(x *inode.Inode) { x.Opens = maxOpens }),
		"links and opens":      other(1, func(x *inode.Inode) { x.Links, x.Opens = maxLinks, maxOpens }),
		"no opens":             other(1, func(x *inode.Inode) { x.Opens = 0 }),
		"size":                 other(1, func(x *inode.Inode) { x.Size = maxFile }),
		"size of a hole":       other(3, func(x *inode.Inode) { x.Size = maxFile }),
		"size of one":          other(3, func(x *inode.Inode) { x.Size = 1 }),
		"no parts":             other(1, func(x *inode.Inode) { x.Parts = nil }),
		"no parts, no size":    other(1, func(x *inode.Inode) { x.Parts, x.Size = nil, 0 }),
		"a part to the end":    other(3, func(x *inode.Inode) { x.Parts, x.Size = parts(part(maxFile-9, 9, maxAddr-1, maxWrite-9)), maxFile }),
		"a part of one byte":   other(3, func(x *inode.Inode) { x.Parts, x.Size = parts(part(0, 1, 0, 0)), 1 }),
		"the longest part":     other(3, func(x *inode.Inode) { x.Parts, x.Size = parts(part(0, maxWrite, 0, 0)), maxWrite }),
		"many parts":           other(3, func(x *inode.Inode) { x.Parts, x.Size = dots(maxParts), 2*maxParts-1 }),
		"parts of one address": other(3, func(x *inode.Inode) { x.Parts, x.Size = parts(part(0, 5, 1, 0), part(5, 5, 1, 0)), 10 }),
	} {
		expectLoad(t, what, l, 13, api.OK)
	}
}

// dots are n parts of one byte with holes between them.
func dots(n int) []api.Part {
	var l []api.Part
	for i := range n {
		l = append(l, part(2*i, 1, i, i))
	}
	return l
}

// P20.4: without the root as it is to be
func TestLoadRoot(t *testing.T) {
	for what, l := range map[string][]inode.Inode{
		"none":                     nil,
		"an empty one":             {},
		"without the root":         table()[1:],
		"without any dir":          table()[1:2],
		"the root last":            append(table()[1:], rootOf()),
		"the root twice":           append([]inode.Inode{rootOf()}, table()...),
		"the root of another Ino":  other(0, func(x *inode.Inode) { x.Ino = 2 }),
		"the root of Ino 0":        other(0, func(x *inode.Inode) { x.Ino = 0 }),
		"the root of Ino -1":       other(0, func(x *inode.Inode) { x.Ino = -1 }),
		"the root is a file":       other(0, func(x *inode.Inode) { x.Kind = api.File }),
		"the root has no kind":     other(0, func(x *inode.Inode) { x.Kind = 0 }),
		"the root has no link":     other(0, func(x *inode.Inode) { x.Links = 0 }),
		"the root has two links":   other(0, func(x *inode.Inode) { x.Links = 2 }),
		"the root is open":         other(0, func(x *inode.Inode) { x.Opens = 1 }),
		"the root has fewer opens": other(0, func(x *inode.Inode) { x.Opens = -1 }),
		"the root is open alone":   other(0, func(x *inode.Inode) { x.Opens, x.Links = 1, 0 }),
		"the root has a size":      other(0, func(x *inode.Inode) { x.Size = 1 }),
		"the root has parts":       other(0, func(x *inode.Inode) { x.Parts = parts(part(0, 1, 1, 0)) }),
		"one ahead of the root":    append([]inode.Inode{{Ino: 0, Kind: api.Dir, Links: 1}}, table()...),
		"far ahead of the root":    append([]inode.Inode{{Ino: math.MinInt, Kind: api.Dir, Links: 1}}, table()...),
	} {
		expectLoad(t, what, l, 13, api.ErrForm)
	}
}

// P20.4: each way in which one of the others is not good, one by one
func TestLoadForm(t *testing.T) {
	for what, l := range map[string][]inode.Inode{
		"two of one Ino":            other(1, func(x *inode.Inode) { x.Ino = 9 }),
		"one like the root":         other(1, func(x *inode.Inode) { x.Ino = 1 }),
		"below the root":            other(1, func(x *inode.Inode) { x.Ino = 0 }),
		"an Ino below 0":            other(1, func(x *inode.Inode) { x.Ino = -3 }),
		"an Ino far below 0":        other(2, func(x *inode.Inode) { x.Ino = math.MinInt }),
		"they do not rise":          other(1, func(x *inode.Inode) { x.Ino = 10 }),
		"the last one is too low":   other(3, func(x *inode.Inode) { x.Ino = 8 }),
		"the next one":              other(3, func(x *inode.Inode) { x.Ino = 13 }),
		"behind the next one":       other(3, func(x *inode.Inode) { x.Ino = 14 }),
		"far behind the next one":   other(3, func(x *inode.Inode) { x.Ino = math.MaxInt }),
		"one in between is behind":  other(2, func(x *inode.Inode) { x.Ino = 13 }),
		"twice":                     append(table(), table()...),
		"of no kind":                other(1, func(x *inode.Inode) { x.Kind = 0 }),
		"kind 3":                    other(1, func(x *inode.Inode) { x.Kind = 3 }),
		"kind -1":                   other(1, func(x *inode.Inode) { x.Kind = -1 }),
		"kind 3, empty":             other(3, func(x *inode.Inode) { x.Kind = 3 }),
		"kind 0, empty":             other(2, func(x *inode.Inode) { x.Kind = 0 }),
		"kind far beyond":           other(2, func(x *inode.Inode) { x.Kind = 1<<32 + 1 }),
		"links one beyond":          other(1, func(x *inode.Inode) { x.Links = maxLinks + 1 }),
		"links below 0":             other(1, func(x *inode.Inode) { x.Links = -1 }),
		"links of a dir one beyond": other(2, func(x *inode.Inode) { x.Links = maxLinks + 1 }),
		"links of a dir below 0":    other(2, func(x *inode.Inode) { x.Links = -1 }),
		"links far beyond":          other(1, func(x *inode.Inode) { x.Links = math.MaxInt }),
		"links far below":           other(1, func(x *inode.Inode) { x.Links = math.MinInt }),
		"opens one beyond":          other(1, func(x *inode.Inode) { x.Opens = maxOpens + 1 }),
		"opens below 0":             other(1, func(x *inode.Inode) { x.Opens = -1 }),
		"opens far beyond":          other(1, func(x *inode.Inode) { x.Opens = math.MaxInt }),
		"opens far below":           other(1, func(x *inode.Inode) { x.Opens = math.MinInt }),
		"links make up for opens":   other(1, func(x *inode.Inode) { x.Links, x.Opens = 3, -1 }),
		"opens make up for links":   other(1, func(x *inode.Inode) { x.Links, x.Opens = -1, 3 }),
		"neither, of a file":        other(3, func(x *inode.Inode) { x.Opens = 0 }),
		"neither, of one with size": other(1, func(x *inode.Inode) { x.Links, x.Opens = 0, 0 }),
		"neither, of a dir":         other(2, func(x *inode.Inode) { x.Links = 0 }),
		"a dir is open":             other(2, func(x *inode.Inode) { x.Opens = 1 }),
		"a dir is open alone":       other(2, func(x *inode.Inode) { x.Links, x.Opens = 0, 1 }),
		"a dir has a size":          other(2, func(x *inode.Inode) { x.Size = 1 }),
		"a dir has a size below 0":  other(2, func(x *inode.Inode) { x.Size = -1 }),
		"a dir has a part":          other(2, func(x *inode.Inode) { x.Parts = parts(part(0, 1, 1, 0)) }),
		"a dir has size and part":   other(2, func(x *inode.Inode) { x.Size, x.Parts = 1, parts(part(0, 1, 1, 0)) }),
		"a dir's part is none":      other(2, func(x *inode.Inode) { x.Parts = parts(api.Part{}) }),
		"size one beyond":           other(1, func(x *inode.Inode) { x.Size = maxFile + 1 }),
		"size of a hole beyond":     other(3, func(x *inode.Inode) { x.Size = maxFile + 1 }),
		"size below 0":              other(3, func(x *inode.Inode) { x.Size = -1 }),
		"size far below 0":          other(3, func(x *inode.Inode) { x.Size = math.MinInt }),
		"size far beyond":           other(1, func(x *inode.Inode) { x.Size = math.MaxInt }),
		"size below the end":        other(1, func(x *inode.Inode) { x.Size = 19 }),
		"size 0 below the end":      other(1, func(x *inode.Inode) { x.Size = 0 }),
		"end behind the size":       other(3, func(x *inode.Inode) { x.Parts, x.Size = parts(part(maxFile-1, 1, 1, 0)), maxFile-1 }),
		"end at 1, size 0":          other(3, func(x *inode.Inode) { x.Parts = parts(part(0, 1, 1, 0)) }),
	} {
		expectLoad(t, what, l, 13, api.ErrForm)
	}
}

// P20.4: parts that are not good, though the size is great enough
func TestLoadParts(t *testing.T) {
	bads := [][]api.Part{
		parts(part(0, 1, 1, 0), part(0, 1, 1, 0)), parts(part(0, 5, 1, 0), part(4, 5, 2, 0)), parts(part(5, 1, 1, 0), part(0, 1, 1, 0)), parts(part(0, 5, 1, 0), part(5, 5, 1, 5)),
		parts(part(maxFile, 1, 1, 0)), parts(part(maxFile-1, 2, 1, 0)), parts(part(0, maxWrite+1, 1, 0)), parts(part(0, 2, 1, maxWrite-1)), parts(part(0, 1, maxAddr, 0)), parts(part(0, 0, 1, 0)), parts(part(5, 0, 1, 0)),
		parts(part(math.MaxInt, 1, 1, 0)), parts(part(math.MaxInt, math.MaxInt, 1, 0)), parts(part(1, math.MaxInt, 1, 0)), parts(part(0, 1, 1, math.MaxInt)), parts(part(math.MinInt, math.MaxInt, 1, 0)),
		dots(maxParts + 1), dots(maxFile / 2), parts(api.Part{}),
	}
	for _, v := range numbers {
		if v < 0 {
			bads = append(bads, parts(part(v, 1, 1, 0)), parts(part(0, v, 1, 0)), parts(part(0, 1, v, 0)), parts(part(0, 1, 1, v)))
		}
	}
	for _, l := range bads {
		for _, all := range [][]api.Part{l, append(slices.Clone(l), part(4000, 5, 3, 0)), append(parts(part(0, 1, 9, 0)), l...)} {
			for i := 1; i < 4; i += 2 {
				expectLoad(t, "parts", other(i, func(x *inode.Inode) { x.Size, x.Parts = maxFile, all }), 13, api.ErrForm)
			}
		}
	}
}

// P20.4: what comes next, at its least and greatest, one beyond and far beyond
func TestLoadNext(t *testing.T) {
	for _, next := range append([]int{10, 11, 12, 13, 14}, numbers...) {
		all, alone := api.ErrForm, api.ErrForm
		if from(next, 13, lastNext) {
			all = api.OK
		}
		if from(next, 2, lastNext) {
			alone = api.OK
		}
		expectLoad(t, "all", table(), next, all)
		expectLoad(t, "the root alone", table()[:1], next, alone)
	}
	last := other(3, func(x *inode.Inode) { x.Ino = lastNext - 1 })
	expectLoad(t, "the greatest Ino", last, lastNext, api.OK)
	expectLoad(t, "below it", last, lastNext-1, api.ErrForm)
	for i, ino := range []int{lastNext, lastNext + 1, math.MaxInt - 1, math.MaxInt} {
		for _, next := range []int{lastNext, lastNext + 1, lastNext + 2, math.MaxInt, math.MinInt} {
			expectLoad(t, fmt.Sprint("beyond it ", i), other(3, func(x *inode.Inode) { x.Ino = ino }), next, api.ErrForm)
		}
	}
}

// P20.4: as many as there may be, and more
func TestLoadMany(t *testing.T) {
	many := func(n int) []inode.Inode {
		l := []inode.Inode{rootOf()}
		for i := 1; i < n; i++ {
			l = append(l, inode.Inode{Ino: 1 + i, Kind: 1 + i%2, Links: 1})
		}
		return l
	}
	for _, n := range []int{2, maxInodes - 1, maxInodes} {
		expectLoad(t, "as many", many(n), n+1, api.OK)
	}
	for _, n := range []int{maxInodes + 1, maxInodes + 2, 2 * maxInodes, 1<<16 + 1} {
		expectLoad(t, "more", many(n), n+1, api.ErrForm)
		expectLoad(t, "more", many(n), lastNext, api.ErrForm)
	}
	b := newBoth(t)
	b.load(many(maxInodes), 500)
	if ino, err := b.make(api.File); ino != 0 || err != api.ErrSpace {
		t.Errorf("Make of a full one: %d, %v", ino, err)
	}
	b.link(maxInodes, -1)
	if ino, err := b.make(api.File); ino != 500 || err != api.OK {
		t.Errorf("Make once one has gone: %d, %v", ino, err)
	}
}

// P20.4: what was loaded goes on by its own numbers, links and opens.
func TestLoadGoesOn(t *testing.T) {
	b := newBoth(t)
	b.load(table(), 40)
	if ino, err := b.make(api.Dir); ino != 40 || err != api.OK {
		t.Errorf("Make: %d, %v", ino, err)
	}
	expect(t, "Link", b.link(2, 1), api.ErrNone)
	expect(t, "Link", b.link(1, 1), api.ErrArg)
	expect(t, "Link", b.link(12, -1), api.ErrLinks)
	for range 3 {
		expect(t, "Open", b.open(12, -1), api.OK)
	}
	expectNone(t, b.x, 12)
	expect(t, "Link", b.link(9, -1), api.OK)
	expectNone(t, b.x, 9)
	for range 2 {
		expect(t, "Link", b.link(3, -1), api.OK)
	}
	expect(t, "Write", b.write(3, 4, 2, 90), api.OK)
	expectParts(t, b.x, 3, part(3, 1, 6, 0), part(4, 2, 90, 0), part(6, 2, 6, 3), part(10, 10, 7, 50))
	expect(t, "Move", b.move(3, moves(move(7, 55, 2, 0)), 8), api.OK)
	expect(t, "Truncate", b.truncate(3, 17), api.OK)
	expectParts(t, b.x, 3, part(3, 1, 6, 0), part(4, 2, 90, 0), part(6, 2, 6, 3), part(10, 5, 7, 50), part(15, 2, 8, 0))
	expect(t, "Open", b.open(3, -1), api.OK)
	expectNone(t, b.x, 3)
	expectAll(t, b.x, 41, 1, 40)
}

// P20.2, P20.4: the last number that a loaded table may give
func TestLastNumber(t *testing.T) {
	b := newBoth(t)
	b.load(table(), lastNext)
	if ino, err := b.make(api.File); ino != lastNext || err != api.OK {
		t.Errorf("Make: %d, %v", ino, err)
	}
	expectAll(t, b.x, lastNext+1, 1, 3, 9, 12, lastNext)
	b.link(lastNext, 1)
	b.write(lastNext, 0, 1, 1)
	expectStat(t, b.x, lastNext, api.Stat{Ino: lastNext, Kind: api.File, Links: 1, Size: 1}, 0)
	// Its Next is none that Load takes.
	b.again()
	b.link(lastNext, -1)
	b.again()
	expectAll(t, b.x, lastNext+1, 1, 3, 9, 12)
}

// P20.4: behind ErrForm the table is as it was, one that has much and one behind the other.
func TestLoadFalls(t *testing.T) {
	b := newBoth(t)
	f := full(b)
	b.open(f, 1)
	b.dir()
	b.make(api.File)
	for range 3 {
		expect(t, "Load", b.load(nil, 2), api.ErrForm)
		expect(t, "Load", b.load(table(), 12), api.ErrForm)
		expect(t, "Load", b.load(other(3, func(x *inode.Inode) { x.Opens = 0 }), 13), api.ErrForm)
		b.write(f, 0, 1, 9)
	}
	// There is one that has neither links nor opens.
	expect(t, "Load of Dump", b.load(b.x.Dump(), b.x.Next()), api.ErrForm)
	b.link(4, 1)
	expect(t, "Load of Dump", b.load(b.x.Dump(), b.x.Next()), api.OK)
	b.link(4, -1)
	expectAll(t, b.x, 5, 1, 2, 3)
}

// P20.4: Dump tells them by rising numbers, with all that each is.
func TestDump(t *testing.T) {
	b := newBoth(t)
	f, d := b.file(), b.dir()
	made, _ := b.make(api.File)
	g := b.file()
	b.open(g, 1)
	b.open(g, 1)
	b.link(g, -1)
	b.write(g, 5, 10, 77)
	b.truncate(g, 12)
	b.link(f, 1)
	b.truncate(f, 99)
	b.link(b.file(), -1)
	want := []inode.Inode{
		rootOf(),
		{Ino: f, Kind: api.File, Links: 2, Size: 99},
		{Ino: d, Kind: api.Dir, Links: 1},
		{Ino: made, Kind: api.File},
		{Ino: g, Kind: api.File, Opens: 2, Size: 12, Parts: parts(part(5, 7, 77, 0))},
	}
	if got := b.x.Dump(); !sameDump(got, want) {
		t.Errorf("Dump: %v, not %v", got, want)
	}
}

// P20.5: Dump of Load is what was loaded, and of one that loads that again.
func TestDumpOfLoad(t *testing.T) {
	for _, l := range [][]inode.Inode{
		table(), table()[:1], table()[:2], {rootOf(), {Ino: 5, Kind: api.File, Links: maxLinks, Opens: maxOpens, Size: maxFile, Parts: dots(maxParts)}},
		{rootOf(), {Ino: 2, Kind: api.Dir, Links: maxLinks}, {Ino: 12, Kind: api.File, Opens: maxOpens, Size: maxFile}},
	} {
		for _, next := range []int{13, 14, 1 << 30, lastNext} {
			x, y := inode.New(), inode.New()
			expect(t, "Load", x.Load(apart(l), next), api.OK)
			expect(t, "Load of Dump", y.Load(x.Dump(), x.Next()), api.OK)
			if a, b := x.Dump(), y.Dump(); !sameDump(a, l) || !sameDump(b, l) || y.Next() != next {
				t.Errorf("of %s, %d: %s, %s, %d", short(l), next, short(a), short(b), y.Next())
			}
		}
	}
}
