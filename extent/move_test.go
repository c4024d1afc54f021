package extent_test

import (
	"math"
	"testing"

	"escheat/api"
	"escheat/extent"
)

// P19.4: by hand, each kind of stretch of the data
func TestMove(t *testing.T) {
	a, b, c, d := part(10, 10, 1, 50), part(30, 10, 2, 100), part(50, 10, 1, 70), part(70, 5, 1, 55)
	l := parts(a, b, c, d)
	for _, x := range []struct {
		addr, from, n, at, to int
		want                  []api.Part
	}{
		// of which no part has any
		{3, 50, 10, 0, 9, l}, {1, 0, 50, 0, 9, l}, {1, 80, 5, 0, 9, l}, {1, 60, 10, 0, 9, l}, {2, 50, 50, 0, 9, l}, {2, 110, 1, 0, 9, l}, {0, 0, maxWrite, 0, 9, l}, {9, 0, maxWrite, 0, 1, l},
		// a whole part's, and more
		{2, 100, 10, 0, 9, parts(a, part(30, 10, 9, 0), c, d)}, {2, 90, 30, 0, 9, parts(a, part(30, 10, 9, 10), c, d)}, {2, 0, maxWrite, 0, 9, parts(a, part(30, 10, 9, 100), c, d)}, {1, 70, 10, 0, 9, parts(a, b, part(50, 10, 9, 0), d)}, {1, 65, 20, 7, 9, parts(a, b, part(50, 10, 9, 12), d)},
		// its beginning
		{2, 100, 1, 0, 9, parts(a, part(30, 1, 9, 0), part(31, 9, 2, 101), c, d)}, {2, 95, 10, 3, 9, parts(a, part(30, 5, 9, 8), part(35, 5, 2, 105), c, d)}, {2, 0, 101, 0, 9, parts(a, part(30, 1, 9, 100), part(31, 9, 2, 101), c, d)},
		// its midst
		{2, 105, 1, 0, 9, parts(a, part(30, 5, 2, 100), part(35, 1, 9, 0), part(36, 4, 2, 106), c, d)}, {2, 101, 8, 30, 9, parts(a, part(30, 1, 2, 100), part(31, 8, 9, 30), part(39, 1, 2, 109), c, d)}, {1, 72, 3, 0, 9, parts(a, b, part(50, 2, 1, 70), part(52, 3, 9, 0), part(55, 5, 1, 75), d)},
		// its end
		{2, 109, 1, 0, 9, parts(a, part(30, 9, 2, 100), part(39, 1, 9, 0), c, d)}, {2, 105, 50, 2, 9, parts(a, part(30, 5, 2, 100), part(35, 5, 9, 2), c, d)}, {2, 109, 915, 2, 9, parts(a, part(30, 9, 2, 100), part(39, 1, 9, 2), c, d)},
		// several parts', and such as several parts point to
		{1, 0, maxWrite, 0, 9, parts(part(10, 10, 9, 50), b, part(50, 10, 9, 70), part(70, 5, 9, 55))}, {1, 50, 30, 0, 9, parts(part(10, 10, 9, 0), b, part(50, 10, 9, 20), part(70, 5, 9, 5))}, {1, 55, 20, 0, 9, parts(part(10, 5, 1, 50), part(15, 5, 9, 0), b, part(50, 5, 9, 15), part(55, 5, 1, 75), part(70, 5, 9, 0))},
		{1, 55, 5, 0, 9, parts(part(10, 5, 1, 50), part(15, 5, 9, 0), b, c, part(70, 5, 9, 0))}, {1, 57, 1, 33, 9, parts(part(10, 7, 1, 50), part(17, 1, 9, 33), part(18, 2, 1, 58), b, c, part(70, 2, 1, 55), part(72, 1, 9, 33), part(73, 2, 1, 58))}, {1, 50, 6, 0, 9, parts(part(10, 6, 9, 0), part(16, 4, 1, 56), b, c, part(70, 1, 9, 5), part(71, 4, 1, 56))},
		// At greater than From, and the same
		{2, 100, 10, 200, 9, parts(a, part(30, 10, 9, 200), c, d)}, {2, 100, 10, 100, 9, parts(a, part(30, 10, 9, 100), c, d)}, {2, 100, 10, maxWrite - 10, 9, parts(a, part(30, 10, 9, maxWrite-10), c, d)}, {2, 103, 4, 104, 9, parts(a, part(30, 3, 2, 100), part(33, 4, 9, 104), part(37, 3, 2, 107), c, d)},
		// to the address that it came from
		{2, 100, 10, 100, 2, l}, {2, 0, maxWrite, 0, 2, l}, {1, 52, 3, 52, 1, l}, {2, 100, 10, 0, 2, parts(a, part(30, 10, 2, 0), c, d)}, {2, 100, 5, 105, 2, parts(a, part(30, 5, 2, 105), part(35, 5, 2, 105), c, d)}, {2, 100, 9, 101, 2, parts(a, part(30, 9, 2, 101), part(39, 1, 2, 109), c, d)}, {2, 101, 9, 100, 2, parts(a, part(30, 1, 2, 100), part(31, 9, 2, 100), c, d)},
		{1, 50, 10, 70, 1, parts(part(10, 10, 1, 70), b, c, part(70, 5, 1, 75))}, {1, 50, 20, 60, 1, parts(part(10, 10, 1, 60), b, c, part(70, 5, 1, 65))},
		// to an address that is there
		{2, 100, 10, 0, 1, parts(a, part(30, 10, 1, 0), c, d)}, {1, 70, 10, 0, 2, parts(a, b, part(50, 10, 2, 0), d)},
	} {
		expectMove(t, l, api.Move{Addr: x.addr, From: x.from, Len: x.n, At: x.at}, x.to, x.want, api.OK)
	}
}

// P19.4: where it goes on then it is joined: to the one ahead, to the one behind, to both, and what was moved to itself.
func TestMoveJoins(t *testing.T) {
	l := parts(part(0, 5, 1, 0), part(5, 5, 2, 20), part(10, 5, 1, 10), part(15, 5, 3, 0), part(20, 5, 2, 25))
	for _, x := range []struct {
		m    api.Move
		to   int
		want []api.Part
	}{
		{api.Move{Addr: 2, From: 20, Len: 5, At: 5}, 1, parts(part(0, 15, 1, 0), l[3], l[4])},
		{api.Move{Addr: 2, From: 20, Len: 2, At: 5}, 1, parts(part(0, 7, 1, 0), part(7, 3, 2, 22), l[2], l[3], l[4])},
		{api.Move{Addr: 2, From: 23, Len: 2, At: 8}, 1, parts(l[0], part(5, 3, 2, 20), part(8, 7, 1, 8), l[3], l[4])},
		{api.Move{Addr: 2, From: 20, Len: 10, At: 5}, 1, parts(part(0, 15, 1, 0), l[3], part(20, 5, 1, 10))},
		{api.Move{Addr: 3, From: 0, Len: 5, At: 20}, 2, parts(l[0], l[1], l[2], part(15, 10, 2, 20))},
		{api.Move{Addr: 3, From: 0, Len: 5, At: 15}, 1, parts(l[0], l[1], part(10, 10, 1, 10), l[4])},
		{api.Move{Addr: 3, From: 0, Len: 5, At: 16}, 1, parts(l[0], l[1], l[2], part(15, 5, 1, 16), l[4])},
		{api.Move{Addr: 2, From: 20, Len: 5, At: 4}, 1, parts(l[0], part(5, 5, 1, 4), l[2], l[3], l[4])},
		{api.Move{Addr: 2, From: 20, Len: 5, At: 6}, 1, parts(l[0], part(5, 5, 1, 6), l[2], l[3], l[4])},
		{api.Move{Addr: 1, From: 0, Len: 15, At: 15}, 2, parts(part(0, 15, 2, 15), l[3], l[4])},
	} {
		expectMove(t, l, x.m, x.to, x.want, api.OK)
	}
	expectMove(t, parts(part(0, 5, 1, 0), part(5, 5, 2, 5)), api.Move{Addr: 2, From: 5, Len: 5, At: 5}, 1, parts(part(0, 10, 1, 0)), api.OK)
	expectMove(t, parts(part(0, 5, 1, 0), part(6, 5, 2, 5)), api.Move{Addr: 2, From: 5, Len: 5, At: 5}, 1, parts(part(0, 5, 1, 0), part(6, 5, 1, 5)), api.OK)
	// Bytes of one address that did not go on in each other do, once the later ones are moved.
	expectMove(t, parts(part(0, 5, 1, 0), part(5, 5, 1, 100)), api.Move{Addr: 1, From: 100, Len: 5, At: 5}, 1, parts(part(0, 10, 1, 0)), api.OK)
	expectMove(t, parts(part(0, 5, 1, 100), part(5, 5, 1, 0)), api.Move{Addr: 1, From: 100, Len: 5, At: 0}, 0, parts(part(0, 5, 0, 0), part(5, 5, 1, 0)), api.OK)
}

// P19.4: as many parts as there may be, one more, and two more by one split
func TestMoveOfMany(t *testing.T) {
	many := append(few(maxParts-1, 3, 5), part(1000, 5, 6, 10))
	for _, x := range []struct {
		l    []api.Part
		m    api.Move
		to   int
		want int
		err  api.Errno
	}{
		{many, api.Move{Addr: 6, From: 10, Len: 5}, 9, maxParts, api.OK}, {many, api.Move{Addr: 5, Len: 3}, 9, maxParts, api.OK}, {many, api.Move{Addr: 7, Len: 3}, 9, maxParts, api.OK},
		{many, api.Move{Addr: 6, From: 10, Len: 4}, 9, 0, api.ErrMany}, {many, api.Move{Addr: 6, From: 14, Len: 1}, 9, 0, api.ErrMany}, {many, api.Move{Addr: 6, From: 12, Len: 1}, 9, 0, api.ErrMany}, {many, api.Move{Addr: 5, From: 1, Len: 1}, 9, 0, api.ErrMany}, {many, api.Move{Addr: 5, From: 0, Len: 1}, 9, 0, api.ErrMany}, {many, api.Move{Addr: 6, From: 12, Len: 1}, 6, 0, api.ErrMany}, {many, api.Move{Addr: 6, From: 12, Len: 1, At: 12}, 6, maxParts, api.OK},
		{many[1:], api.Move{Addr: 6, From: 10, Len: 4}, 9, maxParts, api.OK}, {many[1:], api.Move{Addr: 6, From: 12, Len: 1}, 9, 0, api.ErrMany}, {many[2:], api.Move{Addr: 6, From: 12, Len: 1}, 9, maxParts, api.OK},
		{few(maxParts/2, 3, 5), api.Move{Addr: 5, Len: 1}, 9, maxParts, api.OK}, {few(maxParts/2, 3, 5), api.Move{Addr: 5, From: 1, Len: 1}, 9, 0, api.ErrMany}, {few(21, 3, 5), api.Move{Addr: 5, From: 1, Len: 1}, 9, 63, api.OK}, {few(22, 3, 5), api.Move{Addr: 5, From: 1, Len: 1}, 9, 0, api.ErrMany},
	} {
		got, err := sameMove(t, x.l, x.m, x.to)
		if len(got) != x.want || err != x.err {
			t.Errorf("%v to %d among %d: %d, %v", x.m, x.to, len(x.l), len(got), err)
		}
	}
	// What joins makes room for what splits.
	l := append(few(maxParts-2, 1, 2), part(1000, 5, 6, 0), part(1005, 5, 7, 0))
	if got, err := sameMove(t, l, api.Move{Addr: 7, Len: 3, At: 5}, 6); len(got) != maxParts || err != api.OK {
		t.Errorf("%d, %v", len(got), err)
	}
}

// P19.4: what is no move, or no address, moves nothing, whatever is there.
func TestMoveOfBad(t *testing.T) {
	for _, l := range goods() {
		for _, x := range []struct{ addr, from, n, at, to int }{
			{-1, 0, 1, 0, 1}, {maxAddr, 0, 1, 0, 1}, {maxAddr + 1, 0, 1, 0, 1}, {math.MinInt, 0, 1, 0, 1}, {math.MaxInt, 0, 1, 0, 1},
			{5, -1, 1, 0, 1}, {5, -1, 2, 0, 1}, {5, math.MinInt, 1, 0, 1}, {5, maxWrite, 1, 0, 1}, {5, maxWrite - 1, 2, 0, 1}, {5, 1, maxWrite, 0, 1}, {5, maxWrite, 0, 0, 1}, {5, math.MaxInt, 1, 0, 1}, {5, math.MaxInt, math.MaxInt, 0, 1},
			{5, 0, 0, 0, 1}, {5, 0, -1, 0, 1}, {5, 5, -1, 5, 1}, {5, 0, math.MinInt, 0, 1}, {5, 0, maxWrite + 1, 0, 1}, {5, 0, math.MaxInt, 0, 1}, {5, 1, math.MaxInt, 0, 1}, {5, 0, math.MaxInt, 1, 1},
			{5, 0, 1, -1, 1}, {5, 0, 2, -1, 1}, {5, 0, 1, math.MinInt, 1}, {5, 0, 1, maxWrite, 1}, {5, 0, 2, maxWrite - 1, 1}, {5, 0, maxWrite, 1, 1}, {5, 0, 1, math.MaxInt, 1}, {5, 0, math.MaxInt, math.MaxInt, 1},
			{5, 0, 1, 0, -1}, {5, 0, 1, 0, maxAddr}, {5, 0, 1, 0, maxAddr + 1}, {5, 0, 1, 0, math.MinInt}, {5, 0, 1, 0, math.MaxInt}, {0, 0, 0, 0, 0},
		} {
			expectMove(t, l, api.Move{Addr: x.addr, From: x.from, Len: x.n, At: x.at}, x.to, nil, api.ErrArg)
		}
	}
}

// P19.4: Move is held against the words of each move made of numbers at the edges.
func TestMoveOfEachNumber(t *testing.T) {
	l := parts(part(0, 10, 0, 0), part(20, 10, 1, maxWrite-10), part(40, 1, maxAddr-1, 0))
	edges := []int{math.MinInt, math.MinInt + maxWrite, -1, 0, 1, maxWrite - 1, maxWrite, maxWrite + 1, 1<<32 + 1, math.MaxInt - maxWrite, math.MaxInt}
	for _, addr := range []int{math.MinInt, -1, 0, 1, maxAddr - 1, maxAddr, 1 << 32, math.MaxInt} {
		for _, to := range []int{math.MinInt, -1, 0, 1, maxAddr - 1, maxAddr, 1 << 32, math.MaxInt} {
			for _, from := range edges {
				for _, n := range edges {
					for _, at := range edges {
						sameMove(t, l, api.Move{Addr: addr, From: from, Len: n, At: at}, to)
					}
				}
			}
		}
	}
	// Each field alone, all along its bounds
	for v := -3; v <= maxAddr+3; v++ {
		for field, m := range map[string]api.Move{"Addr": {Addr: v, Len: 1}, "From": {From: v, Len: 10}, "Len": {Len: v, From: 3, At: 4}, "At": {At: v, Len: 10}} {
			want := api.ErrArg
			if isMove(m, 3) {
				want = api.OK
			}
			if _, err := extent.Move(nil, m, 3); err != want {
				t.Errorf("%s %d: %v", field, v, err)
			}
		}
		if _, err := extent.Move(l, api.Move{Len: 1}, v); (err == api.OK) != (v >= 0 && v < 16384) {
			t.Errorf("to %d: %v", v, err)
		}
	}
}

// P19.4: of no parts
func TestMoveOfNone(t *testing.T) {
	for _, l := range [][]api.Part{nil, {}} {
		expectMove(t, l, api.Move{Len: 1}, 0, nil, api.OK)
		expectMove(t, l, api.Move{Addr: maxAddr - 1, Len: maxWrite}, maxAddr-1, nil, api.OK)
		expectMove(t, l, api.Move{Len: 0}, 0, nil, api.ErrArg)
	}
}
