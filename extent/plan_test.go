package extent_test

import (
	"testing"

	"escheat/api"
	"escheat/extent"
)

// P19.3: by hand, each kind of stretch
func TestPlan(t *testing.T) {
	a, b, c := part(10, 10, 1, 50), part(30, 10, 2, 100), part(40, 5, 1, 60)
	l := parts(a, b, c)
	for _, x := range []struct {
		off, n int
		want   []api.Part
	}{
		// within a part
		{10, 10, parts(a)}, {12, 3, parts(part(12, 3, 1, 52))}, {10, 1, parts(part(10, 1, 1, 50))}, {19, 1, parts(part(19, 1, 1, 59))}, {10, 9, parts(part(10, 9, 1, 50))}, {11, 9, parts(part(11, 9, 1, 51))}, {41, 2, parts(part(41, 2, 1, 61))},
		// over a hole
		{0, 10, parts(part(0, 10, -1, 0))}, {0, 1, parts(part(0, 1, -1, 0))}, {5, 3, parts(part(5, 3, -1, 0))}, {20, 10, parts(part(20, 10, -1, 0))}, {22, 5, parts(part(22, 5, -1, 0))}, {45, 1, parts(part(45, 1, -1, 0))}, {45, 500, parts(part(45, 500, -1, 0))}, {maxFile - 1, 1, parts(part(maxFile-1, 1, -1, 0))},
		// over both
		{0, 15, parts(part(0, 10, -1, 0), part(10, 5, 1, 50))}, {15, 10, parts(part(15, 5, 1, 55), part(20, 5, -1, 0))}, {15, 20, parts(part(15, 5, 1, 55), part(20, 10, -1, 0), part(30, 5, 2, 100))}, {0, 30, parts(part(0, 10, -1, 0), a, part(20, 10, -1, 0))},
		{9, 2, parts(part(9, 1, -1, 0), part(10, 1, 1, 50))}, {19, 2, parts(part(19, 1, 1, 59), part(20, 1, -1, 0))}, {19, 12, parts(part(19, 1, 1, 59), part(20, 10, -1, 0), part(30, 1, 2, 100))}, {44, 2, parts(part(44, 1, 1, 64), part(45, 1, -1, 0))},
		{0, maxFile, parts(part(0, 10, -1, 0), a, part(20, 10, -1, 0), b, c, part(45, maxFile-45, -1, 0))}, {1, maxFile - 1, parts(part(1, 9, -1, 0), a, part(20, 10, -1, 0), b, c, part(45, maxFile-45, -1, 0))},
		// over several
		{30, 15, parts(b, c)}, {35, 7, parts(part(35, 5, 2, 105), part(40, 2, 1, 60))}, {10, 35, parts(a, part(20, 10, -1, 0), b, c)}, {39, 2, parts(part(39, 1, 2, 109), part(40, 1, 1, 60))},
	} {
		expectPlan(t, l, x.off, x.n, x.want)
	}
}

// P19.3: of no parts
func TestPlanOfNone(t *testing.T) {
	for _, l := range [][]api.Part{nil, {}} {
		expectPlan(t, l, 0, 1, parts(part(0, 1, -1, 0)))
		expectPlan(t, l, 0, maxFile, parts(part(0, maxFile, -1, 0)))
		expectPlan(t, l, 77, 5, parts(part(77, 5, -1, 0)))
		expectPlan(t, l, maxFile-1, 1, parts(part(maxFile-1, 1, -1, 0)))
	}
}

// P19.3: at each limit of off and n, alone and together
func TestPlanAtLimits(t *testing.T) {
	full := parts(part(0, maxWrite, 1, 0), part(5000, 10, 2, 0), part(maxFile-5, 5, 3, 0))
	for _, l := range append(goods(), full) {
		for _, off := range numbers {
			for _, n := range numbers {
				samePlan(t, l, off, n)
			}
		}
	}
	for _, x := range [][2]int{{-1, 1}, {-1, 5}, {-5, 5}, {0, 0}, {5, 0}, {5, -1}, {5, -5}, {0, maxFile + 1}, {maxFile, 1}, {maxFile, 0}, {maxFile + 1, 1}, {maxFile - 1, 2}, {1, maxFile}, {maxFile - 5, 6}, {maxFile, maxFile}, {1<<63 - 1, 1}, {1<<63 - 1, 1<<63 - 1}, {1, 1<<63 - 1}, {5, 1<<63 - 5}, {-1 << 63, 1}, {5, -1 << 63}, {-1 << 63, -1 << 63}, {1 << 32, 1}, {0, 1<<32 + 5}} {
		expectPlan(t, full, x[0], x[1], nil)
	}
	expectPlan(t, full, maxFile-5, 5, parts(full[2]))
	expectPlan(t, full, maxFile-1, 1, parts(part(maxFile-1, 1, 3, 4)))
	expectPlan(t, full, 0, maxFile, parts(full[0], part(maxWrite, 5000-maxWrite, -1, 0), full[1], part(5010, maxFile-5-5010, -1, 0), full[2]))
}

// P19.3: what touches and was not joined is not joined; holes that lie between one-byte parts are each for itself.
func TestPlanJoinsNothing(t *testing.T) {
	l := parts(part(0, 5, 1, 0), part(5, 5, 2, 5), part(10, 5, 2, 5), part(15, 5, 2, 9), part(20, 1, 1, 20), part(22, 1, 1, 22), part(24, 1, 0, 0), part(25, 1, 0, 0))
	expectPlan(t, l, 0, 20, l[:4])
	expectPlan(t, l, 3, 9, parts(part(3, 2, 1, 3), part(5, 5, 2, 5), part(10, 2, 2, 5)))
	expectPlan(t, l, 20, 7, parts(l[4], part(21, 1, -1, 0), l[5], part(23, 1, -1, 0), l[6], l[7], part(26, 1, -1, 0)))
	got := extent.Plan(few(maxParts, 1, 2), 0, 2*maxParts)
	if len(got) != 2*maxParts {
		t.Errorf("there are %d pieces", len(got))
	}
}

// P19.3: each stretch of a short file, and of one with many parts, piece by piece and without a gap
func TestPlanOfEachStretch(t *testing.T) {
	for _, l := range [][]api.Part{parts(part(2, 3, 1, 0), part(5, 2, 2, 3), part(9, 1, 1, 7), part(10, 4, 1, 0), part(20, 6, 0, 0)), few(maxParts, 1, 2), few(30, 2, 2), nil} {
		for off := range 40 {
			for n := 1; n < 40; n++ {
				samePlan(t, l, off, n)
				at := off
				for i, x := range extent.Plan(l, off, n) {
					if x.Off != at || x.Len < 1 || x.Addr < -1 || x.Addr == -1 && x.From != 0 {
						t.Errorf("piece %d of Plan(%v, %d, %d) is %v", i, l, off, n, x)
					}
					at += x.Len
				}
				if at != off+n {
					t.Errorf("Plan(%v, %d, %d) ends at %d", l, off, n, at)
				}
			}
		}
	}
}
