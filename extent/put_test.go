package extent_test

import (
	"testing"

	"escheat/api"
	"escheat/extent"
)

// P19.2: the chapter's example
func TestExample(t *testing.T) {
	l, err := extent.Put(nil, part(0, 10, 1, 0))
	expectParts(t, "the first Put", l, err, parts(part(0, 10, 1, 0)), api.OK)
	expectPut(t, l, part(3, 2, 2, 0), parts(part(0, 3, 1, 0), part(3, 2, 2, 0), part(5, 5, 1, 5)), api.OK)
}

// P19.2: by hand, at each place beside, between and over parts
func TestPut(t *testing.T) {
	a, b, c := part(10, 10, 1, 50), part(30, 10, 2, 100), part(50, 10, 3, 7)
	l := parts(a, b, c)
	for _, y := range []struct {
		x    api.Part
		want []api.Part
	}{
		// ahead of all, behind all, into a hole
		{part(0, 5, 9, 3), parts(part(0, 5, 9, 3), a, b, c)}, {part(0, 10, 9, 3), parts(part(0, 10, 9, 3), a, b, c)}, {part(9, 1, 9, 3), parts(part(9, 1, 9, 3), a, b, c)},
		{part(70, 5, 9, 3), parts(a, b, c, part(70, 5, 9, 3))}, {part(60, 5, 9, 3), parts(a, b, c, part(60, 5, 9, 3))}, {part(maxFile-1, 1, 9, 3), parts(a, b, c, part(maxFile-1, 1, 9, 3))},
		{part(22, 5, 9, 3), parts(a, part(22, 5, 9, 3), b, c)}, {part(20, 5, 9, 3), parts(a, part(20, 5, 9, 3), b, c)}, {part(45, 5, 9, 3), parts(a, b, part(45, 5, 9, 3), c)}, {part(20, 10, 9, 3), parts(a, part(20, 10, 9, 3), b, c)},
		// into the midst of one
		{part(33, 4, 9, 3), parts(a, part(30, 3, 2, 100), part(33, 4, 9, 3), part(37, 3, 2, 107), c)}, {part(31, 1, 9, 3), parts(a, part(30, 1, 2, 100), part(31, 1, 9, 3), part(32, 8, 2, 102), c)},
		// over the beginning of one
		{part(25, 10, 9, 3), parts(a, part(25, 10, 9, 3), part(35, 5, 2, 105), c)}, {part(30, 1, 9, 3), parts(a, part(30, 1, 9, 3), part(31, 9, 2, 101), c)}, {part(0, 15, 9, 3), parts(part(0, 15, 9, 3), part(15, 5, 1, 55), b, c)},
		// over the end of one
		{part(35, 10, 9, 3), parts(a, part(30, 5, 2, 100), part(35, 10, 9, 3), c)}, {part(39, 1, 9, 3), parts(a, part(30, 9, 2, 100), part(39, 1, 9, 3), c)}, {part(55, 100, 9, 3), parts(a, b, part(50, 5, 3, 7), part(55, 100, 9, 3))},
		// over a whole one, and just what is there
		{part(28, 14, 9, 3), parts(a, part(28, 14, 9, 3), c)}, {part(30, 10, 9, 3), parts(a, part(30, 10, 9, 3), c)}, {part(30, 11, 9, 3), parts(a, part(30, 11, 9, 3), c)}, {part(29, 11, 9, 3), parts(a, part(29, 11, 9, 3), c)},
		{b, l}, {part(33, 4, 2, 103), l}, {part(30, 1, 2, 100), l}, {part(39, 1, 2, 109), l}, {a, l}, {c, l},
		// the same address, other data
		{part(33, 4, 2, 100), parts(a, part(30, 3, 2, 100), part(33, 4, 2, 100), part(37, 3, 2, 107), c)}, {part(30, 10, 2, 101), parts(a, part(30, 10, 2, 101), c)},
		// over several and the holes between
		{part(15, 20, 9, 3), parts(part(10, 5, 1, 50), part(15, 20, 9, 3), part(35, 5, 2, 105), c)}, {part(5, 50, 9, 3), parts(part(5, 50, 9, 3), part(55, 5, 3, 12))}, {part(10, 50, 9, 3), parts(part(10, 50, 9, 3))}, {part(0, maxWrite, 9, 0), parts(part(0, maxWrite, 9, 0))},
		{part(20, 30, 9, 3), parts(a, part(20, 30, 9, 3), c)}, {part(19, 32, 9, 3), parts(part(10, 9, 1, 50), part(19, 32, 9, 3), part(51, 9, 3, 8))},
		// it goes on where the one ahead ends
		{part(20, 5, 1, 60), parts(part(10, 15, 1, 50), b, c)}, {part(20, 10, 1, 60), parts(part(10, 20, 1, 50), b, c)}, {part(15, 10, 1, 55), parts(part(10, 15, 1, 50), b, c)}, {part(60, 1, 3, 17), parts(a, b, part(50, 11, 3, 7))}, {part(20, 15, 1, 60), parts(part(10, 25, 1, 50), part(35, 5, 2, 105), c)},
		// the one behind goes on where it ends
		{part(25, 5, 2, 95), parts(a, part(25, 15, 2, 95), c)}, {part(20, 10, 2, 90), parts(a, part(20, 20, 2, 90), c)}, {part(25, 10, 2, 95), parts(a, part(25, 15, 2, 95), c)}, {part(0, 10, 1, 40), parts(part(0, 20, 1, 40), b, c)}, {part(15, 15, 2, 85), parts(part(10, 5, 1, 50), part(15, 25, 2, 85), c)},
		// it touches, and does not go on
		{part(20, 5, 1, 61), parts(a, part(20, 5, 1, 61), b, c)}, {part(20, 5, 1, 59), parts(a, part(20, 5, 1, 59), b, c)}, {part(20, 5, 1, 50), parts(a, part(20, 5, 1, 50), b, c)}, {part(20, 5, 2, 60), parts(a, part(20, 5, 2, 60), b, c)}, {part(25, 5, 2, 96), parts(a, part(25, 5, 2, 96), b, c)}, {part(25, 5, 1, 95), parts(a, part(25, 5, 1, 95), b, c)},
		// it would go on, and does not touch
		{part(21, 5, 1, 60), parts(a, part(21, 5, 1, 60), b, c)}, {part(24, 5, 2, 95), parts(a, part(24, 5, 2, 95), b, c)}, {part(21, 5, 1, 61), parts(a, part(21, 5, 1, 61), b, c)},
	} {
		expectPut(t, l, y.x, y.want, api.OK)
	}
}

// P19.2: what goes on at both sides becomes one, and so does what is put between the two halves of what it was.
func TestPutJoinsBoth(t *testing.T) {
	l := parts(part(0, 10, 1, 0), part(10, 10, 2, 0), part(20, 10, 1, 20), part(35, 5, 1, 35))
	expectPut(t, l, part(10, 10, 1, 10), parts(part(0, 30, 1, 0), part(35, 5, 1, 35)), api.OK)
	expectPut(t, l, part(5, 20, 1, 5), parts(part(0, 30, 1, 0), part(35, 5, 1, 35)), api.OK)
	expectPut(t, l, part(10, 25, 1, 10), parts(part(0, 40, 1, 0)), api.OK)
	expectPut(t, l, part(30, 5, 1, 30), parts(part(0, 10, 1, 0), part(10, 10, 2, 0), part(20, 20, 1, 20)), api.OK)
	expectPut(t, l, part(0, 40, 1, 0), parts(part(0, 40, 1, 0)), api.OK)
	expectPut(t, l, part(10, 9, 1, 10), parts(part(0, 19, 1, 0), part(19, 1, 2, 9), l[2], l[3]), api.OK)
	expectPut(t, l, part(11, 9, 1, 11), parts(l[0], part(10, 1, 2, 0), part(11, 19, 1, 11), l[3]), api.OK)

	// Joined, they are as long as may be.
	expectPut(t, parts(part(0, 500, 1, 0), part(501, 523, 1, 501)), part(500, 1, 1, 500), parts(part(0, maxWrite, 1, 0)), api.OK)
	expectPut(t, parts(part(0, maxWrite, 1, 0)), part(maxWrite, maxWrite, 1, 0), parts(part(0, maxWrite, 1, 0), part(maxWrite, maxWrite, 1, 0)), api.OK)
	// The address 0 and the byte 0 are like any other.
	expectPut(t, parts(part(1, 1, 0, 1)), part(0, 1, 0, 0), parts(part(0, 2, 0, 0)), api.OK)
	expectPut(t, parts(part(3, 1, 0, 0)), part(5, 1, 0, 0), parts(part(3, 1, 0, 0), part(5, 1, 0, 0)), api.OK)
	expectPut(t, parts(part(3, 1, 0, 0)), part(4, 1, 0, 0), parts(part(3, 1, 0, 0), part(4, 1, 0, 0)), api.OK)
}

// P19.2: into no parts, at each edge
func TestPutAlone(t *testing.T) {
	for _, x := range []api.Part{part(0, 1, 0, 0), part(maxFile-1, 1, maxAddr-1, maxWrite-1), part(0, maxWrite, 5, 0), part(maxFile-maxWrite, maxWrite, 5, 0), part(77, 5, 0, 9)} {
		expectPut(t, nil, x, parts(x), api.OK)
		expectPut(t, []api.Part{}, x, parts(x), api.OK)
		expectPut(t, parts(x), x, parts(x), api.OK)
	}
}

// P19.2: what is not good alone is not put, whatever is there.
func TestPutOfBad(t *testing.T) {
	for _, l := range goods() {
		for _, x := range badParts() {
			expectPut(t, l, x, nil, api.ErrArg)
		}
	}
	l := parts(part(0, 10, 1, 0), part(20, 10, 1, 100))
	good := 0
	for _, off := range numbers {
		for _, n := range numbers {
			for _, addr := range numbers {
				for _, at := range numbers {
					x := part(off, n, addr, at)
					if isPart(x) {
						good++
						samePut(t, l, x)
					} else if got, err := extent.Put(l, x); len(got) != 0 || err != api.ErrArg {
						t.Fatalf("Put of %v: %v, %v", x, got, err)
					}
				}
			}
		}
	}
	if good < 500 {
		t.Errorf("%d of them are good", good)
	}
}

// P19.2: with as many parts as there may be
func TestPutOfMany(t *testing.T) {
	many := few(maxParts, 3, 5) // 0 to 3, 5 to 8, ..
	for _, y := range []struct {
		x    api.Part
		want int
		err  api.Errno
	}{
		// it joins
		{part(3, 1, 5, 3), maxParts, api.OK}, {part(318, 2, 5, 3), maxParts, api.OK}, {part(3, 2, 5, 3), maxParts, api.OK}, {part(0, 3, 5, 0), maxParts, api.OK}, {part(1, 1, 5, 1), maxParts, api.OK},
		// it takes the room of one, or of more
		{part(0, 3, 6, 0), maxParts, api.OK}, {part(5, 4, 6, 0), maxParts, api.OK}, {part(315, 3, 6, 0), maxParts, api.OK}, {part(4, 6, 6, 0), maxParts, api.OK}, {part(0, 8, 6, 0), maxParts - 1, api.OK}, {part(0, maxWrite, 6, 0), 1, api.OK}, {part(2, 4, 6, 0), 0, api.ErrMany}, {part(2, 6, 6, 0), maxParts, api.OK},
		// it would be one more
		{part(3, 1, 6, 0), 0, api.ErrMany}, {part(4, 1, 5, 0), 0, api.ErrMany}, {part(318, 1, 5, 0), 0, api.ErrMany}, {part(maxFile-1, 1, 5, 0), 0, api.ErrMany}, {part(0, 1, 6, 0), 0, api.ErrMany}, {part(2, 1, 6, 0), 0, api.ErrMany}, {part(317, 5, 6, 0), 0, api.ErrMany}, {part(3, 2, 6, 0), 0, api.ErrMany},
		// two more
		{part(1, 1, 6, 0), 0, api.ErrMany}, {part(316, 1, 6, 0), 0, api.ErrMany},
	} {
		got, err := samePut(t, many, y.x)
		if len(got) != y.want || err != y.err {
			t.Errorf("Put of %v among many: %d, %v", y.x, len(got), err)
		}
	}
	// With one, two and three fewer
	for n, more := range [][2]api.Errno{{api.OK, api.ErrMany}, {api.OK, api.OK}, {api.OK, api.OK}} {
		l := many[n+1:]
		_, one := samePut(t, l, part(2, 1, 6, 0))
		_, two := samePut(t, l, part(316, 1, 6, 0))
		if got := [2]api.Errno{one, two}; got != more {
			t.Errorf("one more, and two more, than %d: %v", len(l), got)
		}
	}
	// What joins at both sides makes room, and what splits at the same time does not count.
	apart := append(few(maxParts-2, 3, 5), part(1000, 1, 7, 0), part(1002, 1, 7, 2))
	if got, err := samePut(t, apart, part(1001, 1, 7, 1)); len(got) != maxParts-1 || err != api.OK {
		t.Errorf("joined they are %d, %v", len(got), err)
	}
}

// P19.2: what is put over the others part by part, in one order and the other
func TestPutPartByPart(t *testing.T) {
	var rising, falling, tiled, over []api.Part
	for i := range 20 {
		rising, _ = samePut(t, rising, part(i*10, 10, 3, i*10))
		falling, _ = samePut(t, falling, part((19-i)*10, 10, 3, (19-i)*10))
		tiled, _ = samePut(t, tiled, part(i*10, 10, i, 0))
		over, _ = samePut(t, over, part(i*5, 10, i, 0))
	}
	expectParts(t, "rising", rising, api.OK, parts(part(0, 200, 3, 0)), api.OK)
	expectParts(t, "falling", falling, api.OK, parts(part(0, 200, 3, 0)), api.OK)
	if len(tiled) != 20 || len(over) != 20 || over[19] != part(95, 10, 19, 0) || over[7] != part(35, 5, 7, 0) {
		t.Errorf("%v, %v", tiled, over)
	}
	// With holes between, which are closed one by one
	var holes []api.Part
	for i := range 20 {
		holes, _ = samePut(t, holes, part(i*10, 5, 3, i*10))
	}
	for i := range 20 {
		if len(holes) != 20-i {
			t.Errorf("behind %d they are %v", i, holes)
		}
		holes, _ = samePut(t, holes, part(i*10+5, 5, 3, i*10+5))
	}
	expectParts(t, "closed", holes, api.OK, parts(part(0, 200, 3, 0)), api.OK)
}

// P19.2: by hand, at each place
func TestCut(t *testing.T) {
	a, b := part(10, 10, 1, 50), part(30, 10, 2, 100)
	l := parts(a, b)
	for _, y := range []struct {
		size int
		want []api.Part
	}{
		{-1, nil}, {-5, nil}, {-maxFile, nil}, {-1 << 63, nil}, {0, nil}, {1, nil}, {9, nil}, {10, nil},
		{11, parts(part(10, 1, 1, 50))}, {15, parts(part(10, 5, 1, 50))}, {19, parts(part(10, 9, 1, 50))}, {20, parts(a)}, {21, parts(a)}, {29, parts(a)}, {30, parts(a)},
		{31, parts(a, part(30, 1, 2, 100))}, {39, parts(a, part(30, 9, 2, 100))}, {40, l}, {41, l}, {maxFile - 1, l}, {maxFile, l}, {maxFile + 1, l}, {1 << 32, l}, {1<<63 - 1, l},
	} {
		expectCut(t, l, y.size, y.want)
	}
	for _, size := range numbers {
		expectCut(t, nil, size, nil)
		expectCut(t, []api.Part{}, size, nil)
	}
	// What touches
	l = parts(part(0, 10, 1, 0), part(10, 10, 1, 0), part(20, 10, 2, 10))
	expectCut(t, l, 10, l[:1])
	expectCut(t, l, 11, parts(l[0], part(10, 1, 1, 0)))
	expectCut(t, l, 20, l[:2])
	expectCut(t, l, 19, parts(l[0], part(10, 9, 1, 0)))
	// As many as there may be, and all of a file
	expectCut(t, few(maxParts, 1, 2), maxFile, few(maxParts, 1, 2))
	expectCut(t, few(maxParts, 1, 2), 126, few(maxParts-1, 1, 2))
	expectCut(t, parts(part(maxFile-1, 1, 1, 0)), maxFile, parts(part(maxFile-1, 1, 1, 0)))
	expectCut(t, parts(part(maxFile-1, 1, 1, 0)), maxFile-1, nil)
}

// P19.2: each list at each size
func TestCutOfEach(t *testing.T) {
	for _, l := range goods() {
		for _, size := range numbers {
			sameCut(t, l, size)
		}
		for _, x := range l {
			for _, size := range []int{x.Off - 1, x.Off, x.Off + 1, behind(x) - 1, behind(x), behind(x) + 1} {
				sameCut(t, l, size)
			}
		}
	}
}

// P19.2: what was cut off is a hole, and may be written again.
func TestCutAndPut(t *testing.T) {
	l := parts(part(0, 10, 1, 0), part(20, 10, 2, 0))
	l = sameCut(t, l, 25)
	expectEnd(t, l, 25)
	expectPlan(t, l, 0, 30, parts(part(0, 10, 1, 0), part(10, 10, -1, 0), part(20, 5, 2, 0), part(25, 5, -1, 0)))
	expectPut(t, l, part(27, 3, 2, 7), parts(part(0, 10, 1, 0), part(20, 5, 2, 0), part(27, 3, 2, 7)), api.OK)
	expectPut(t, l, part(25, 5, 2, 5), parts(part(0, 10, 1, 0), part(20, 10, 2, 0)), api.OK)
	l = sameCut(t, l, 0)
	expectEnd(t, l, 0)
	expectPut(t, l, part(27, 3, 2, 7), parts(part(27, 3, 2, 7)), api.OK)
}

// P19.2
func TestEnd(t *testing.T) {
	expectEnd(t, nil, 0)
	expectEnd(t, []api.Part{}, 0)
	expectEnd(t, parts(part(0, 1, 1, 0)), 1)
	expectEnd(t, parts(part(5, 7, 1, 9)), 12)
	expectEnd(t, parts(part(5, 7, 1, 9), part(100, 20, 1, 9)), 120)
	expectEnd(t, parts(part(5, 7, 1, 9), part(100, 20, 1, 9), part(120, 1, 1, 9)), 121)
	expectEnd(t, parts(part(0, maxWrite, 1, 0), part(5000, 1, 2, 0)), 5001)
	expectEnd(t, parts(part(maxFile-1, 1, 1, 0)), maxFile)
	expectEnd(t, few(maxParts, 3, 5), 318)
	for _, l := range goods() {
		expectEnd(t, l, endOf(l))
	}
}
