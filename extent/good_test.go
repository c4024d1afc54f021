package extent_test

import (
	"math"
	"slices"
	"testing"

	"escheat/api"
	"escheat/extent"
)

// P19.1: parts that are good
func TestGood(t *testing.T) {
	for _, l := range goods() {
		expectGood(t, l, true)
	}
}

// goods are some lists of parts that are good, those at each edge among them.
func goods() [][]api.Part {
	many := few(maxParts, 1, 2)
	side := []api.Part{}
	for i := range maxParts {
		side = append(side, part(i*128, 128, i%2, 0))
	}
	whole := []api.Part{}
	for i := range 8 {
		whole = append(whole, part(i*maxWrite, maxWrite, 5, 0))
	}
	return [][]api.Part{
		nil, {}, many, many[:1], many[:maxParts-1], side, whole,
		// each at its least and greatest
		{part(0, 1, 0, 0)}, {part(maxFile-1, 1, 0, 0)}, {part(0, maxWrite, 0, 0)}, {part(0, 1, maxAddr-1, 0)}, {part(0, 1, 0, maxWrite-1)},
		{part(maxFile-1, 1, maxAddr-1, maxWrite-1)}, {part(maxFile-maxWrite, maxWrite, maxAddr-1, 0)},
		// two of them together at theirs
		{part(maxFile-5, 5, 3, 0)}, {part(maxFile-maxWrite, maxWrite, 3, 0)}, {part(0, 5, 3, maxWrite-5)}, {part(0, maxWrite-1, 3, 1)}, {part(maxFile-7, 7, 3, maxWrite-7)},
		// such as touch, and do not go on
		{part(0, 5, 1, 0), part(5, 5, 2, 5)}, {part(0, 5, 1, 0), part(5, 5, 1, 0)}, {part(0, 5, 1, 0), part(5, 5, 1, 4)}, {part(0, 5, 1, 0), part(5, 5, 1, 6)}, {part(0, 5, 1, 5), part(5, 5, 1, 0)},
		{part(0, 5, 1, 7), part(5, 5, 0, 12)}, {part(0, maxWrite, 1, 0), part(maxWrite, 1, 1, 0)}, {part(0, 5, 1, 0), part(5, 5, 1, 10)},
		// such as would go on, and do not touch
		{part(0, 5, 1, 0), part(6, 5, 1, 5)}, {part(0, 5, 1, 0), part(6, 5, 1, 6)}, {part(0, 5, 1, 0), part(5, 1, 2, 0), part(6, 5, 1, 5)}, {part(0, 5, 1, 0), part(maxFile-5, 5, 1, 5)},
		{part(3, 5, 1, 0), part(8, 5, 1, 0), part(13, 5, 1, 0)}, {part(0, 1, 9, 4), part(2, 1, 7, 4), part(4, 1, 8, 4)}, {part(0, 10, 1, 0), part(20, 10, 2, 100)},
	}
}

// bads are some that are not good, each for one reason.
func bads() [][]api.Part {
	var l [][]api.Part
	for _, x := range badParts() {
		l = append(l, parts(x))
	}
	l = append(l,
		// more than there may be
		few(maxParts+1, 1, 2), few(maxParts+2, 1, 2), few(maxFile/2, 1, 2), slices.Repeat(few(1, 1, 1), 70000),
		// such as go on
		parts(part(0, 5, 1, 0), part(5, 5, 1, 5)), parts(part(0, 1, 0, 0), part(1, 1, 0, 1)), parts(part(0, maxWrite-1, 1, 0), part(maxWrite-1, 1, 1, maxWrite-1)), parts(part(3, 5, maxAddr-1, 7), part(8, 2, maxAddr-1, 12)),
		parts(part(0, 5, 2, 0), part(5, 5, 1, 5), part(10, 5, 1, 10)), parts(part(0, 5, 1, 0), part(5, 5, 1, 5), part(10, 5, 2, 0)),
		// such as lie over one another
		parts(part(0, 5, 1, 0), part(4, 5, 2, 0)), parts(part(0, 5, 1, 0), part(4, 5, 1, 4)), parts(part(0, 5, 1, 0), part(4, 5, 1, 5)), parts(part(0, 5, 1, 0), part(0, 5, 1, 0)), parts(part(0, 5, 1, 0), part(0, 5, 2, 0)),
		parts(part(0, 9, 1, 0), part(3, 2, 2, 0)), parts(part(0, 3, 1, 0), part(0, 5, 2, 0)), parts(part(2, 3, 1, 0), part(2, 1, 2, 0)), parts(part(0, 1, 1, 0), part(2, 5, 2, 0), part(6, 5, 3, 0)),
		// such as do not rise
		parts(part(5, 5, 1, 0), part(0, 5, 2, 0)), parts(part(5, 5, 1, 0), part(4, 1, 2, 0)), parts(part(1, 1, 1, 0), part(0, 1, 1, 0)), parts(part(20, 5, 1, 0), part(0, 5, 2, 0), part(40, 5, 2, 0)), parts(part(0, 5, 1, 0), part(40, 5, 2, 0), part(20, 5, 3, 0)),
		parts(part(1, 1, 1, 1), part(0, 1, 1, 0)), parts(part(5, 5, 1, 5), part(0, 5, 1, 0)),
	)
	// one among good ones
	for _, x := range badParts() {
		l = append(l, parts(x, part(5000, 5, 1, 0)), parts(part(0, 5, 1, 0), x), parts(part(0, 5, 1, 0), x, part(5000, 5, 1, 0)))
	}
	return l
}

// badParts are some that are not good alone, each for one reason.
func badParts() []api.Part {
	return []api.Part{
		part(-1, 1, 1, 0), part(-1, 5, 1, 0), part(-5, 5, 1, 0), part(-maxWrite, maxWrite, 1, 0), part(math.MinInt, 1, 1, 0), part(math.MinInt, 5, 1, 0),
		part(maxFile, 1, 1, 0), part(maxFile-1, 2, 1, 0), part(maxFile-maxWrite+1, maxWrite, 1, 0), part(maxFile-4, 5, 1, 0), part(math.MaxInt, 1, 1, 0), part(math.MaxInt-4, 5, 1, 0), part(1<<32, 1, 1, 0), part(1<<32+5, 5, 1, 0),
		part(0, 0, 1, 0), part(10, 0, 1, 0), part(10, -1, 1, 0), part(10, -10, 1, 20), part(10, math.MinInt, 1, 0), part(maxFile, 0, 1, 0), part(10, 0, 1, maxWrite),
		part(0, maxWrite+1, 1, 0), part(0, maxFile, 1, 0), part(0, maxFile+1, 1, 0), part(10, math.MaxInt, 1, 0), part(10, math.MaxInt-9, 1, 0), part(10, 1<<32+5, 1, 0),
		part(0, 1, -1, 0), part(0, 5, -1, 0), part(0, 5, -2, 0), part(0, 5, maxAddr, 0), part(0, 5, maxAddr+1, 0), part(0, 5, math.MaxInt, 0), part(0, 5, math.MinInt, 0), part(0, 5, 1<<32, 0),
		part(0, 5, 1, -1), part(0, 1, 1, -1), part(0, 5, 1, -5), part(0, 5, 1, math.MinInt), part(0, 5, 1, math.MinInt+5),
		part(0, 1, 1, maxWrite), part(0, 2, 1, maxWrite-1), part(0, 5, 1, maxWrite-4), part(0, maxWrite, 1, 1), part(0, 1, 1, math.MaxInt), part(0, 5, 1, math.MaxInt-4), part(0, 5, 1, 1<<32),
		part(math.MaxInt, math.MaxInt, 1, 0), part(0, math.MaxInt, 1, math.MaxInt), part(math.MaxInt, math.MaxInt, math.MaxInt, math.MaxInt), part(math.MinInt, math.MinInt, math.MinInt, math.MinInt), {},
	}
}

// P19.1: parts that are not good, of which all others tell none.
func TestBad(t *testing.T) {
	for _, l := range bads() {
		expectGood(t, l, false)
		for _, x := range []api.Part{part(0, 1, 1, 0), part(9, 1, 1, 1), part(0, maxWrite, 7, 0), part(maxFile-1, 1, 7, 0), part(5, 5, 1, 5)} {
			expectPut(t, l, x, nil, api.ErrForm)
		}
		for _, size := range numbers {
			expectCut(t, l, size, nil)
		}
		for _, n := range []int{1, 2, 9, maxFile} {
			expectPlan(t, l, 0, n, nil)
			expectPlan(t, l, maxFile-n, n, nil)
		}
		for _, m := range []api.Move{{Len: 1}, {Addr: 1, Len: maxWrite}, {Addr: 77, Len: 5, From: 3, At: 9}} {
			expectMove(t, l, m, 1, nil, api.ErrForm)
			expectMove(t, l, m, m.Addr, nil, api.ErrForm)
		}
		expectEnd(t, l, 0)
	}
}

// P19.1: of parts that are not good ErrForm is told also where what is to be put, or moved, is not good.
func TestBadComesFirst(t *testing.T) {
	for _, l := range bads() {
		for _, x := range badParts() {
			expectPut(t, l, x, nil, api.ErrForm)
		}
		for _, v := range []int{-1, 0, maxAddr, math.MaxInt, math.MinInt} {
			expectMove(t, l, api.Move{Addr: v}, 1, nil, api.ErrForm)
			expectMove(t, l, api.Move{Len: 1}, -1, nil, api.ErrForm)
			expectMove(t, l, api.Move{Len: v, From: v, At: v}, v, nil, api.ErrForm)
			expectPlan(t, l, v, v, nil)
		}
	}
}

// P19.1: Good is held against the words, of each part made of numbers at the edges, alone, ahead of another one and behind one.
func TestGoodOfEachNumber(t *testing.T) {
	good := 0
	for _, off := range numbers {
		for _, n := range numbers {
			for _, addr := range numbers {
				for _, at := range numbers {
					x := part(off, n, addr, at)
					want := isPart(x)
					for _, l := range [][]api.Part{{x}, {part(0, 1, 3, 0), x}, {x, part(maxFile-1, 1, 3, 0)}} {
						if extent.Good(l) != areParts(l) {
							t.Fatalf("Good(%v) = %v", l, extent.Good(l))
						}
					}
					if want {
						good++
					}
				}
			}
		}
	}
	if good < 500 {
		t.Errorf("%d of them are good", good)
	}
}

// P19.1: each bound of one field, where the others are alone what they may be
func TestGoodOfEachField(t *testing.T) {
	for v := -3; v <= maxAddr+3; v++ {
		expectGood(t, parts(part(v, 1, 3, 0)), v >= 0 && v <= 8191)
		expectGood(t, parts(part(v, 700, 3, 0)), v >= 0 && v <= 7492)
		expectGood(t, parts(part(0, v, 3, 0)), v >= 1 && v <= 1024)
		expectGood(t, parts(part(0, v, 3, 100)), v >= 1 && v <= 924)
		expectGood(t, parts(part(8000, v, 3, 0)), v >= 1 && v <= 192)
		expectGood(t, parts(part(0, 1, v, 0)), v >= 0 && v <= 16383)
		expectGood(t, parts(part(0, 1, 3, v)), v >= 0 && v <= 1023)
		expectGood(t, parts(part(0, 700, 3, v)), v >= 0 && v <= 324)
	}
	for n := range maxParts + 5 {
		expectGood(t, few(n, 1, 2), n <= 64)
		expectGood(t, few(n, 2, 2), n <= 64)
	}
}

// P19.1: each two, and each three, of some small parts
func TestGoodOfEachTwo(t *testing.T) {
	small := smallParts(4, 2, 3)
	for _, x := range small {
		for _, y := range small {
			l := parts(x, y)
			expectGood(t, l, areParts(l))
		}
	}
	small = smallParts(3, 1, 2)
	for _, x := range small {
		for _, y := range small {
			for _, z := range small {
				l := parts(x, y, z)
				expectGood(t, l, areParts(l))
			}
		}
	}
}

// smallParts are all parts of a file of so many bytes, of so many addresses, whose data lie below below.
func smallParts(bytes, addrs, below int) []api.Part {
	var l []api.Part
	for off := range bytes {
		for n := 1; off+n <= bytes; n++ {
			for addr := range addrs {
				for at := 0; at+n <= below; at++ {
					l = append(l, part(off, n, addr, at))
				}
			}
		}
	}
	return l
}
