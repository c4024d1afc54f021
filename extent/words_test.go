package extent_test

import (
	"fmt"
	"math"
	"slices"
	"testing"

	"escheat/api"
	"escheat/extent"
)

// The words of the chapter, told in another way than the program's: by stretches that are cut and put together, not byte by byte.

const (
	maxParts = 64
	maxFile  = 8192
	maxWrite = 1024
	maxAddr  = 16384
)

// numbers are whole numbers at the edges of all bounds, and far beyond.
var numbers = []int{
	math.MinInt, math.MinInt + 1, math.MinInt + maxFile, -1 << 62, -1 << 32, -maxFile, -2, -1, 0, 1, 2, maxWrite - 1, maxWrite, maxWrite + 1, maxFile - maxWrite, maxFile - maxWrite + 1,
	maxFile - 1, maxFile, maxFile + 1, maxAddr - 1, maxAddr, 1 << 31, 1 << 32, 1<<32 + 5, 1 << 62, math.MaxInt - maxFile, math.MaxInt - 1, math.MaxInt,
}

func part(off, n, addr, from int) api.Part {
	return api.Part{Off: off, Len: n, Addr: addr, From: from}
}

func parts(l ...api.Part) []api.Part { return l }

// few are n parts that are as long, in steps, of address 5.
func few(n, long, step int) []api.Part {
	var l []api.Part
	for i := range n {
		l = append(l, part(i*step, long, 5, 0))
	}
	return l
}

func behind(x api.Part) int { return x.Off + x.Len }

func from(v, least, most int) bool { return v >= least && v <= most }

// together tells if a and b, and their sum, are from 0 on, and at most most.
func together(a, b, most int) bool {
	return from(a, 0, most) && from(b, 0, most) && a+b <= most
}

// isPart tells if x alone is good.
func isPart(x api.Part) bool {
	return x.Len >= 1 && together(x.Off, x.Len, maxFile) && together(x.From, x.Len, maxWrite) && from(x.Addr, 0, maxAddr-1)
}

// goOn tells if y touches x, and goes on where that ends.
func goOn(x, y api.Part) bool {
	return behind(x) == y.Off && x.Addr == y.Addr && y.From == x.From+x.Len
}

// areParts tells if l is good: each two of them are held against each other.
func areParts(l []api.Part) bool {
	if len(l) > maxParts {
		return false
	}
	for i, x := range l {
		if !isPart(x) {
			return false
		}
		for _, y := range l[:i] {
			if y.Off >= x.Off || max(x.Off, y.Off) < min(behind(x), behind(y)) || goOn(y, x) {
				return false
			}
		}
	}
	return true
}

// stretch is the bytes of x from its k-th on, below its n-th; none, if there are none.
func stretch(x api.Part, k, n int) []api.Part {
	k, n = max(k, 0), min(n, x.Len)
	if k >= n {
		return nil
	}
	return parts(part(x.Off+k, n-k, x.Addr, x.From+k))
}

// inside is what of l lies from off on, below end.
func inside(l []api.Part, off, end int) []api.Part {
	var got []api.Part
	for _, x := range l {
		got = append(got, stretch(x, off-x.Off, end-x.Off)...)
	}
	return got
}

// joined are l by their Off, of which some were made one where they go on.
func joined(l []api.Part) []api.Part {
	l = slices.SortedFunc(slices.Values(l), func(x, y api.Part) int { return x.Off - y.Off })
	for i := 1; i < len(l); {
		if !goOn(l[i-1], l[i]) {
			i++
			continue
		}
		l[i-1].Len += l[i].Len
		l = slices.Delete(l, i, i+1)
	}
	return l
}

// asMany is l; none and ErrMany, if they are more than there may be.
func asMany(l []api.Part) ([]api.Part, api.Errno) {
	if len(l) > maxParts {
		return nil, api.ErrMany
	}
	return l, api.OK
}

func putOf(l []api.Part, x api.Part) ([]api.Part, api.Errno) {
	if !areParts(l) {
		return nil, api.ErrForm
	}
	if !isPart(x) {
		return nil, api.ErrArg
	}
	return asMany(joined(slices.Concat(inside(l, 0, x.Off), parts(x), inside(l, behind(x), maxFile))))
}

func cutOf(l []api.Part, size int) []api.Part {
	if !areParts(l) || size < 0 {
		return nil
	}
	return inside(l, 0, min(size, maxFile))
}

func planOf(l []api.Part, off, n int) []api.Part {
	if !areParts(l) || n < 1 || !together(off, n, maxFile) {
		return nil
	}
	var got []api.Part
	at := off
	for _, x := range append(inside(l, off, off+n), part(off+n, 1, 0, 0)) {
		if x.Off > at {
			got = append(got, part(at, x.Off-at, -1, 0))
		}
		got, at = append(got, x), behind(x)
	}
	return got[:len(got)-1]
}

func isMove(m api.Move, to int) bool {
	return m.Len >= 1 && together(m.From, m.Len, maxWrite) && together(m.At, m.Len, maxWrite) && from(m.Addr, 0, maxAddr-1) && from(to, 0, maxAddr-1)
}

func moveOf(l []api.Part, m api.Move, to int) ([]api.Part, api.Errno) {
	if !areParts(l) {
		return nil, api.ErrForm
	}
	if !isMove(m, to) {
		return nil, api.ErrArg
	}
	var got []api.Part
	for _, x := range l {
		if x.Addr != m.Addr {
			got = append(got, x)
			continue
		}
		first, last := m.From-x.From, m.From+m.Len-x.From
		got = append(append(got, stretch(x, 0, first)...), stretch(x, last, x.Len)...)
		for _, y := range stretch(x, first, last) {
			got = append(got, part(y.Off, y.Len, to, m.At+y.From-m.From))
		}
	}
	return asMany(joined(got))
}

func endOf(l []api.Part) int {
	if !areParts(l) {
		return 0
	}
	most := 0
	for _, x := range l {
		most = max(most, behind(x))
	}
	return most
}

// short is a list as a text that is not too long.
func short(l []api.Part) string { return fmt.Sprintf("%.300s", fmt.Sprint(l)) }

func expectGood(t *testing.T, l []api.Part, want bool) {
	t.Helper()
	if got := extent.Good(l); got != want {
		t.Errorf("Good(%s) = %v", short(l), got)
	}
}

// expectParts holds that what was told is want, or the error alone; and that it is good.
func expectParts(t *testing.T, call string, got []api.Part, err api.Errno, want []api.Part, wantErr api.Errno) {
	t.Helper()
	if err != wantErr || !slices.Equal(got, want) {
		t.Errorf("%.600s = %s, %v, not %s, %v", call, short(got), err, short(want), wantErr)
	}
	if !extent.Good(got) {
		t.Errorf("%.600s = %s, which is not good", call, short(got))
	}
}

func expectPut(t *testing.T, l []api.Part, x api.Part, want []api.Part, wantErr api.Errno) {
	t.Helper()
	got, err := extent.Put(l, x)
	expectParts(t, fmt.Sprint("Put(", l, ", ", x, ")"), got, err, want, wantErr)
}

func expectCut(t *testing.T, l []api.Part, size int, want []api.Part) {
	t.Helper()
	expectParts(t, fmt.Sprint("Cut(", l, ", ", size, ")"), extent.Cut(l, size), api.OK, want, api.OK)
}

func expectPlan(t *testing.T, l []api.Part, off, n int, want []api.Part) {
	t.Helper()
	if got := extent.Plan(l, off, n); !slices.Equal(got, want) {
		t.Errorf("Plan(%s, %d, %d) = %s, not %s", short(l), off, n, short(got), short(want))
	}
}

func expectMove(t *testing.T, l []api.Part, m api.Move, to int, want []api.Part, wantErr api.Errno) {
	t.Helper()
	got, err := extent.Move(l, m, to)
	expectParts(t, fmt.Sprint("Move(", l, ", ", m, ", ", to, ")"), got, err, want, wantErr)
}

func expectEnd(t *testing.T, l []api.Part, want int) {
	t.Helper()
	if got := extent.End(l); got != want {
		t.Errorf("End(%s) = %d, not %d", short(l), got, want)
	}
}

// samePut holds Put against the words; so do those below with the others. What Put should tell is told.
func samePut(t *testing.T, l []api.Part, x api.Part) ([]api.Part, api.Errno) {
	t.Helper()
	want, err := putOf(l, x)
	got, e := extent.Put(l, x)
	if e != err || !slices.Equal(got, want) {
		expectPut(t, l, x, want, err)
	}
	return want, err
}

func sameCut(t *testing.T, l []api.Part, size int) []api.Part {
	t.Helper()
	want := cutOf(l, size)
	if !slices.Equal(extent.Cut(l, size), want) {
		expectCut(t, l, size, want)
	}
	return want
}

func samePlan(t *testing.T, l []api.Part, off, n int) {
	t.Helper()
	expectPlan(t, l, off, n, planOf(l, off, n))
}

func sameMove(t *testing.T, l []api.Part, m api.Move, to int) ([]api.Part, api.Errno) {
	t.Helper()
	want, err := moveOf(l, m, to)
	got, e := extent.Move(l, m, to)
	if e != err || !slices.Equal(got, want) {
		expectMove(t, l, m, to, want, err)
	}
	return want, err
}
