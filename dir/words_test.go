package dir_test

import (
	"fmt"
	"math"
	"regexp"
	"slices"
	"testing"

	"escheat/api"
	"escheat/dir"
)

// The words of the chapter, told in another way than the program's: all entries stand in one list, each where its order puts it.

const (
	maxEntries = 64
	last       = 2147483647
)

var nameForm = regexp.MustCompile(`\A[a-z0-9_]{1,8}\z`)

// numbers are whole numbers at the edges of all bounds, and far beyond.
var numbers = []int{
	math.MinInt, math.MinInt + 1, math.MinInt + 2, math.MinInt + last, -1 << 62, -1 << 33, -1<<32 - 1, -1 << 32, -1<<32 + 1, -1<<32 + 2, -last - 2, -last - 1, -last, -maxEntries, -3, -2, -1,
	0, 1, 2, 3, 4, maxEntries - 1, maxEntries, maxEntries + 1, 255, 256, 1 << 16, 1 << 30, last - 2, last - 1, last, last + 1, last + 2, last + 3,
	1<<32 - 1, 1 << 32, 1<<32 + 1, 1<<32 + 2, 1<<32 + last, 1 << 33, 1 << 62, math.MaxInt - last, math.MaxInt - 1, math.MaxInt,
}

// names are some that are names, by rising bytes: digits, _, letters; the beginning of another one ahead of it.
func names() []string {
	return []string{"0", "00000000", "01234567", "1", "10", "2", "9", "99999999", "9_", "9z", "_", "_0", "__", "________", "_a", "a", "a0", "a00", "a9", "a_", "a__", "aa", "aaaaaaa", "aaaaaaaa", "aaaaaaab", "ab", "abcdefg", "abcdefgh", "b", "ba", "lib", "usr", "z", "z0", "z_", "zy", "zz", "zzzzzzzz"}
}

// others are some that are no names, those just outside the edges among them.
func others() []string {
	return []string{
		"", " ", "a ", " a", "A", "Z", "aA", "Aa", "/", "/a", "a/", "a/b", ".", "..", "a.b", "-", "a-b", "`", "{", "@", "[", ":", "^", "a`", "a{", "\x00", "a\x00", "\x00a", "\n", "a\n", "\na", "\x7f", "\x80", "\xff", "a\xff", "ä", "aä", "é", "ａ", "аbc",
		"abcdefghi", "aaaaaaaaa", "000000000", "_________", "aaaaaaaa/", "aaaaaaaa ", "aaaaaaaaA", "Aaaaaaaaa", "aaaaaaa\xff", "aaaaaaaaaaaaaaaa",
	}
}

// words are the entries that are there, each behind those that come ahead of it.
type words struct{ entries []dir.Entry }

func from(v, least, most int) bool { return v >= least && v <= most }

// ahead tells if a stands ahead of b: by Dir, then Name.
func ahead(a, b dir.Entry) bool { return a.Dir < b.Dir || a.Dir == b.Dir && a.Name < b.Name }

// at is where an entry stands; -1, if it is not there.
func (w *words) at(d int, name string) int {
	return slices.IndexFunc(w.entries, func(e dir.Entry) bool { return e.Dir == d && e.Name == name })
}

func (w *words) add(d int, name string, ino int) api.Errno {
	if !nameForm.MatchString(name) {
		return api.ErrForm
	}
	if !from(d, 1, last) || !from(ino, 1, last) {
		return api.ErrArg
	}
	if w.at(d, name) >= 0 {
		return api.ErrTwice
	}
	if len(w.list(d)) == maxEntries {
		return api.ErrSpace
	}
	made, behind := dir.Entry{Dir: d, Name: name, Ino: ino}, 0
	for behind < len(w.entries) && ahead(w.entries[behind], made) {
		behind++
	}
	w.entries = slices.Insert(w.entries, behind, made)
	return api.OK
}

func (w *words) drop(d int, name string) api.Errno {
	at := w.at(d, name)
	if at < 0 {
		return api.ErrNone
	}
	w.entries = slices.Delete(w.entries, at, at+1)
	return api.OK
}

func (w *words) find(d int, name string) (int, bool) {
	at := w.at(d, name)
	if at < 0 {
		return 0, false
	}
	return w.entries[at].Ino, true
}

func (w *words) list(d int) []string {
	var l []string
	for _, e := range w.entries {
		if e.Dir == d {
			l = append(l, e.Name)
		}
	}
	return l
}

func (w *words) of(ino int) []dir.Entry {
	var l []dir.Entry
	for _, e := range w.entries {
		if e.Ino == ino {
			l = append(l, e)
		}
	}
	return l
}

// short is something as a text that is not too long.
func short(v any) string { return fmt.Sprintf("%.300s", fmt.Sprint(v)) }

// both are Names and what the words say that they are: each call is done to both, and they are held against each other.
type both struct {
	t    *testing.T
	n    *dir.Names
	w    *words
	last string
}

func newBoth(t *testing.T) *both {
	b := &both{t: t, n: dir.New(), w: &words{}, last: "New"}
	b.look()
	return b
}

// add adds a name, and holds the error, and then all that can be asked, against the words.
func (b *both) add(d int, name string, ino int) api.Errno {
	b.t.Helper()
	err := b.addOnly(d, name, ino)
	b.lookAt(d, name, ino)
	b.look()
	return err
}

// addOnly is add, and nothing is asked.
func (b *both) addOnly(d int, name string, ino int) api.Errno {
	b.t.Helper()
	b.last = fmt.Sprintf("Add(%d, %.20q, %d)", d, name, ino)
	return b.done(b.n.Add(d, name, ino), b.w.add(d, name, ino))
}

// drop drops a name, and holds the error, and then all that can be asked, against the words.
func (b *both) drop(d int, name string) api.Errno {
	b.t.Helper()
	err := b.dropOnly(d, name)
	b.lookAt(d, name, d)
	b.look()
	return err
}

// dropOnly is drop, and nothing is asked.
func (b *both) dropOnly(d int, name string) api.Errno {
	b.t.Helper()
	b.last = fmt.Sprintf("Drop(%d, %.20q)", d, name)
	return b.done(b.n.Drop(d, name), b.w.drop(d, name))
}

func (b *both) done(err, want api.Errno) api.Errno {
	b.t.Helper()
	if err != want {
		b.t.Fatalf("%s = %v, not %v", b.last, err, want)
	}
	return err
}

// look holds all that can be asked of what is there, and of a few others, against the words.
func (b *both) look() {
	b.t.Helper()
	if got := b.n.All(); !slices.Equal(got, b.w.entries) {
		b.t.Fatalf("behind %s All is %s, not %s", b.last, short(got), short(b.w.entries))
	}
	dirs, inos := []int{-1, 0, 1, last, last + 1}, []int{-1, 0, 1, last, last + 1}
	for _, e := range b.w.entries {
		dirs, inos = append(dirs, e.Dir), append(inos, e.Ino)
		if ino, ok := b.n.Find(e.Dir, e.Name); ino != e.Ino || !ok {
			b.t.Fatalf("behind %s Find(%d, %q) is %d, %v, not %d", b.last, e.Dir, e.Name, ino, ok, e.Ino)
		}
	}
	for _, d := range rising(dirs) {
		b.lookIn(d)
	}
	for _, ino := range rising(append(inos, dirs...)) {
		b.lookOf(ino)
	}
}

// lookAt holds all that can be asked of one name, its directory and an inode against the words.
func (b *both) lookAt(d int, name string, ino int) {
	b.t.Helper()
	for _, in := range []int{d, d + 1, d - 1, ino} {
		got, ok := b.n.Find(in, name)
		if want, there := b.w.find(in, name); got != want || ok != there {
			b.t.Fatalf("behind %s Find(%d, %.20q) is %d, %v, not %d, %v", b.last, in, name, got, ok, want, there)
		}
		b.lookIn(in)
	}
	b.lookOf(ino)
}

// lookIn holds what is told of a directory against the words.
func (b *both) lookIn(d int) {
	b.t.Helper()
	want := b.w.list(d)
	if got := b.n.List(d); !slices.Equal(got, want) {
		b.t.Fatalf("behind %s List(%d) is %s, not %s", b.last, d, short(got), short(want))
	}
	if got := b.n.Count(d); got != len(want) {
		b.t.Fatalf("behind %s Count(%d) is %d, not %d", b.last, d, got, len(want))
	}
}

// lookOf holds what is told of an inode against the words.
func (b *both) lookOf(ino int) {
	b.t.Helper()
	if got, want := b.n.Of(ino), b.w.of(ino); !slices.Equal(got, want) {
		b.t.Fatalf("behind %s Of(%d) is %s, not %s", b.last, ino, short(got), short(want))
	}
}

// rising is l sorted, each once.
func rising(l []int) []int {
	slices.Sort(l)
	return slices.Compact(l)
}

// name is the one of that number: all are of one length, and rise with the numbers.
func name(i int) string { return fmt.Sprintf("n%03d", i) }

// fill adds as many names to a directory as it may have.
func (b *both) fill(d, ino int) {
	b.t.Helper()
	for i := range maxEntries {
		expect(b.t, "an entry that has room", b.addOnly(d, name(i), ino), api.OK)
	}
	b.look()
}

func entry(d int, name string, ino int) dir.Entry { return dir.Entry{Dir: d, Name: name, Ino: ino} }

// expect holds an error against one that is told by hand.
func expect(t *testing.T, what string, got, want api.Errno) {
	t.Helper()
	if got != want {
		t.Errorf("%s: %v, not %v", what, got, want)
	}
}

// expectFind holds that a name stands for an inode.
func expectFind(t *testing.T, n *dir.Names, d int, name string, want int) {
	t.Helper()
	if ino, ok := n.Find(d, name); ino != want || !ok {
		t.Errorf("Find(%d, %q) is %d, %v, not %d", d, name, ino, ok, want)
	}
}

// expectNone holds that there is no such name.
func expectNone(t *testing.T, n *dir.Names, d int, name string) {
	t.Helper()
	if ino, ok := n.Find(d, name); ino != 0 || ok {
		t.Errorf("Find(%d, %.20q) is %d, %v", d, name, ino, ok)
	}
}

// expectList holds the names of a directory, and how many there are, against what is told by hand.
func expectList(t *testing.T, n *dir.Names, d int, want ...string) {
	t.Helper()
	if got := n.List(d); !slices.Equal(got, want) || n.Count(d) != len(want) {
		t.Errorf("List(%d) is %q, Count %d, not %q", d, got, n.Count(d), want)
	}
}

// expectOf holds the entries of an inode against what is told by hand.
func expectOf(t *testing.T, n *dir.Names, ino int, want ...dir.Entry) {
	t.Helper()
	if got := n.Of(ino); !slices.Equal(got, want) {
		t.Errorf("Of(%d) is %v, not %v", ino, got, want)
	}
}

// expectAll holds all entries against what is told by hand.
func expectAll(t *testing.T, n *dir.Names, want ...dir.Entry) {
	t.Helper()
	if got := n.All(); !slices.Equal(got, want) {
		t.Errorf("All is %v, not %v", got, want)
	}
}
