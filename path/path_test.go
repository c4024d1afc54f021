package path_test

import (
	"regexp"
	"slices"
	"strings"
	"testing"
	"unsafe"

	"escheat/api"
	"escheat/path"
)

// The words of the chapter, told in another way than the program's.
var (
	nameForm = regexp.MustCompile(`\A[a-z0-9_]{1,8}\z`)
	pathForm = regexp.MustCompile(`\A(/|(/[a-z0-9_]{1,8}){1,8})\z`)
)

// deep is the path of n names, each as it is told.
func deep(name string, n int) string {
	return strings.Repeat("/"+name, n)
}

// namesOf are the names of a path, by the words alone.
func namesOf(p string) []string {
	if p == "/" {
		return nil
	}
	return strings.Split(p[1:], "/")
}

// short are all texts of up to most bytes of letters.
func short(letters string, most int) []string {
	l := []string{""}
	for from, n := 0, 0; n < most; n++ {
		to := len(l)
		for _, s := range l[from:to] {
			for i := range len(letters) {
				l = append(l, s+letters[i:i+1])
			}
		}
		from = to
	}
	return l
}

// paths are some that are paths, those at the edges among them.
func paths() []string {
	return []string{
		"/", "/a", "/z", "/0", "/9", "/_", "/a/b", "/b/a", "/a/a", "/ab", "/a/b/c", "/a/bc", "/abc", "/a_0/z9",
		"/abcdefgh", "/abcdefg", "/abcdefgh/abcdefgh", "/________", "/01234567", "/usr/lib/go",
		deep("a", 7), deep("a", 8), deep("abcdefgh", 7), deep("abcdefgh", 8), deep("abcdefgh", 7) + "/a",
		"/a/b/c/d/e/f/g/h", "/1/22/333/4444/55555/666666/7777777/88888888",
	}
}

// others are some that are no paths, those just outside the edges among them.
func others() []string {
	return []string{
		"", "a", "abcdefgh", "a/b", "//", "///", "/a/", "/a/b/", "a/", "//a", "/a//b", "/a//", "/a/b//", "//a/b", "/a///b",
		" ", " /a", "/a ", "/ ", "/a /b", "/a/ b", "/A", "/aB", "/a.b", "/.", "/..", "/a/..", "/a/./b", "/a-b", "/a\x00", "\x00", "/\x00",
		"/\n", "/a\n", "/a\n/b", "/ä", "/\xff", "/\x80", "\\a", "/a\\b", "/aé", "/a?", "/*", "/a:b",
		"/abcdefghi", "/abcdefghi/a", "/a/abcdefghi", "/a/abcdefghi/a", deep("abcdefgh", 7) + "/abcdefghi",
		deep("a", 9), deep("abcdefgh", 9), deep("a", 16), deep("a", 8) + "/", deep("a", 7) + "/", deep("a", 8) + "//", deep("a", 7) + "//a",
		deep("a", 7) + "/A", deep("a", 7) + "/.", deep("a", 8)[1:], deep("", 8), deep("", 9),
		"/" + strings.Repeat("a", 1<<16), strings.Repeat("/", 1<<16), deep("a", 1<<16), strings.Repeat("a", 1<<16),
	}
}

// expectPath holds that p is a path, with its names.
func expectPath(t *testing.T, p string, want []string) {
	t.Helper()
	if !path.Good(p) {
		t.Errorf("Good(%q) is false", p)
	}
	if l, err := path.Split(p); !slices.Equal(l, want) || err != api.OK {
		t.Errorf("Split(%q) = %q, %v, not %q", p, l, err, want)
	}
}

// expectNoPath holds that each call tells that p is none, and nothing beside it.
func expectNoPath(t *testing.T, p string) {
	t.Helper()
	if path.Good(p) {
		t.Errorf("Good(%.80q) is true", p)
	}
	if l, err := path.Split(p); len(l) != 0 || err != api.ErrForm {
		t.Errorf("Split(%.80q) = %.80q, %v", p, l, err)
	}
	if dir, name, ok := path.Up(p); dir != "" || name != "" || ok {
		t.Errorf("Up(%.80q) = %.80q, %.80q, %v", p, dir, name, ok)
	}
	for _, q := range []string{p, "/", "/a", "/a/b", deep("a", 8), p + "/a", "/" + p, strings.TrimSuffix(p, "/")} {
		if path.Inside(p, q) || path.Inside(q, p) {
			t.Errorf("%.80q, %.80q: one of them is inside the other", p, q)
		}
	}
}

// P5.1
func TestName(t *testing.T) {
	for _, s := range []string{"a", "z", "0", "9", "_", "ab", "a0_", "_9z", "0_a", "abcdefg", "abcdefgh", "ijklmnop", "qrstuvwx", "yz012345", "6789____", "________", "00000000", "zzzzzzzz"} {
		if !path.Name(s) {
			t.Errorf("Name(%q) is false", s)
		}
	}
	for _, s := range []string{"", " ", "abcdefghi", "_________", "abcdefgh_", "aaaaaaaaaaaaaaaa", "A", "Z", "aA", "a.b", ".", "..", "a/b", "/", "/a", "a/", "a b", " a", "a ", "a-b", "a\x00", "\x00", "a\n", "\n", "ä", "é", "a\xff", "\xff", "\u0430", "\uff41", "abcdefgä", strings.Repeat("a", 1<<16), strings.Repeat("a", 1<<8), strings.Repeat("a", 1<<8+1)} {
		if path.Name(s) {
			t.Errorf("Name(%.80q) is true", s)
		}
	}
}

// P5.1: each byte alone, and at each place of a name of each length.
func TestNameOfEachByte(t *testing.T) {
	for n := 1; n <= api.MaxName; n++ {
		for at := range n {
			b := []byte(strings.Repeat("m", n))
			for c := range 256 {
				b[at] = byte(c)
				s := string(b)
				if got := path.Name(s); got != nameForm.MatchString(s) {
					t.Errorf("Name(%q) is %v", s, got)
				}
				if got := path.Good("/" + s + "/a"); got != pathForm.MatchString("/"+s+"/a") {
					t.Errorf("Good(%q) is %v", "/"+s+"/a", got)
				}
			}
		}
	}
	for _, c := range "`{/:^@[" {
		if path.Name(string(c)) {
			t.Errorf("Name(%q) is true", c)
		}
	}
}

// P5.1
func TestNameOfEachLength(t *testing.T) {
	for _, c := range "az09_" {
		for n := range 300 {
			s := strings.Repeat(string(c), n)
			want := n >= 1 && n <= 8
			if got := path.Name(s); got != want {
				t.Errorf("Name(%q) is %v", s, got)
			}
			if got := path.Good("/" + s); n > 0 && got != want {
				t.Errorf("Good(%q) is %v", "/"+s, got)
			}
		}
	}
}

// P5.1
func TestPaths(t *testing.T) {
	for _, p := range paths() {
		expectPath(t, p, namesOf(p))
	}
	expectPath(t, "/", nil)
	expectPath(t, "/a", []string{"a"})
	expectPath(t, "/a/b", []string{"a", "b"})
	expectPath(t, "/a/a", []string{"a", "a"})
	expectPath(t, "/b/a_0/z9", []string{"b", "a_0", "z9"})
	expectPath(t, "/1/22/333/4444/55555/666666/7777777/88888888", []string{"1", "22", "333", "4444", "55555", "666666", "7777777", "88888888"})
}

// P5.1, P5.2
func TestWhatIsNoPath(t *testing.T) {
	for _, p := range others() {
		expectNoPath(t, p)
	}
}

// P5.1
func TestPathOfEachDepth(t *testing.T) {
	for _, name := range []string{"a", "_9", "abcdefgh"} {
		for n := 1; n < 40; n++ {
			p := deep(name, n)
			if n > 8 {
				expectNoPath(t, p)
				continue
			}
			expectPath(t, p, slices.Repeat([]string{name}, n))
			expectNoPath(t, p+"/")
			expectNoPath(t, p[1:])
			expectNoPath(t, "/"+p)
		}
	}
}

// P5.1, P5.2: whatever the bytes are, each call tells what the words do.
func TestAllShortTexts(t *testing.T) {
	for _, p := range append(short("/a", 12), short("/a_9.A", 6)...) {
		if pathForm.MatchString(p) {
			expectPath(t, p, namesOf(p))
		} else {
			expectNoPath(t, p)
		}
	}
}

// P5.1: a byte that is put in, turned over, or taken out anywhere.
func TestPathsThatAreSpoilt(t *testing.T) {
	for _, p := range paths() {
		for at := range len(p) + 1 {
			for _, c := range []string{"/", "a", ".", "A", "\x00", "\xff", " ", "\n"} {
				l := []string{p[:at] + c + p[at:]}
				if at < len(p) {
					l = append(l, p[:at]+p[at+1:], p[:at]+c+p[at+1:])
				}
				for _, q := range l {
					if got := path.Good(q); got != pathForm.MatchString(q) {
						t.Errorf("Good(%q) is %v", q, got)
					}
				}
			}
		}
	}
}

// expectNoJoin holds that l is told to be none, and nothing beside it.
func expectNoJoin(t *testing.T, l []string) {
	t.Helper()
	if p, err := path.Join(l); p != "" || err != api.ErrForm {
		t.Errorf("Join(%.80q) = %.80q, %v", l, p, err)
	}
}

// P5.1
func TestJoin(t *testing.T) {
	for _, x := range []struct {
		l    []string
		want string
	}{
		{nil, "/"},
		{[]string{}, "/"},
		{[]string{"a"}, "/a"},
		{[]string{"a", "b"}, "/a/b"},
		{[]string{"b", "a"}, "/b/a"},
		{[]string{"a", "a"}, "/a/a"},
		{[]string{"abcdefgh"}, "/abcdefgh"},
		{[]string{"_", "0", "9", "z"}, "/_/0/9/z"},
		{strings.Split("abcdefgh", ""), "/a/b/c/d/e/f/g/h"},
		{slices.Repeat([]string{"abcdefgh"}, 8), deep("abcdefgh", 8)},
	} {
		if p, err := path.Join(x.l); p != x.want || err != api.OK {
			t.Errorf("Join(%q) = %q, %v, not %q", x.l, p, err, x.want)
		}
	}
}

// P5.1
func TestJoinOfWhatIsNoNames(t *testing.T) {
	for _, s := range []string{"", " ", "abcdefghi", "A", ".", "..", "/", "/a", "a/", "a/b", "a b", "a\x00", "\xff", "ä", strings.Repeat("a", 1<<16)} {
		for n := range 8 {
			for at := range n + 1 {
				expectNoJoin(t, slices.Insert(slices.Repeat([]string{"a"}, n), at, s))
			}
		}
	}
}

// P5.1
func TestJoinOfEachNumber(t *testing.T) {
	for _, name := range []string{"a", "_9", "abcdefgh"} {
		for n := range 40 {
			l := slices.Repeat([]string{name}, n)
			if n > 8 {
				expectNoJoin(t, l)
				continue
			}
			if p, err := path.Join(l); p != "/"+strings.Join(l, "/") || err != api.OK {
				t.Errorf("Join of %d names = %q, %v", n, p, err)
			}
		}
	}
	expectNoJoin(t, slices.Repeat([]string{"a"}, 1<<16))
	expectNoJoin(t, make([]string, 9))
	expectNoJoin(t, make([]string, 1))
}

// P5.2
func TestUp(t *testing.T) {
	for _, x := range []struct{ p, dir, name string }{
		{"/a/b", "/a", "b"}, // the chapter's example
		{"/a", "/", "a"},
		{"/_", "/", "_"},
		{"/abcdefgh", "/", "abcdefgh"},
		{"/a/a", "/a", "a"},
		{"/ab/c", "/ab", "c"},
		{"/a/bc", "/a", "bc"},
		{"/a/b/c", "/a/b", "c"},
		{"/b/a/b/a", "/b/a/b", "a"},
		{deep("a", 8), deep("a", 7), "a"},
		{deep("abcdefgh", 8), deep("abcdefgh", 7), "abcdefgh"},
		{deep("abcdefgh", 7) + "/_", deep("abcdefgh", 7), "_"},
	} {
		if dir, name, ok := path.Up(x.p); dir != x.dir || name != x.name || !ok {
			t.Errorf("Up(%q) = %q, %q, %v, not %q, %q", x.p, dir, name, ok, x.dir, x.name)
		}
	}
	if dir, name, ok := path.Up("/"); dir != "" || name != "" || ok {
		t.Errorf("Up of the root = %q, %q, %v", dir, name, ok)
	}
}

// P5.2: the path of the names but the last one, up to the root.
func TestUpAndUp(t *testing.T) {
	for _, p := range paths() {
		for l := namesOf(p); len(l) > 0; l = l[:len(l)-1] {
			dir, name, ok := path.Up(p)
			if want := "/" + strings.Join(l[:len(l)-1], "/"); dir != want || name != l[len(l)-1] || !ok {
				t.Fatalf("Up(%q) = %q, %q, %v", p, dir, name, ok)
			}
			p = dir
		}
		if p != "/" {
			t.Errorf("%q, not the root", p)
		}
	}
}

// P5.2
func TestInside(t *testing.T) {
	for _, x := range []struct {
		p, in string
		want  bool
	}{
		{"/a/b", "/a", true}, // the chapter's example
		{"/", "/", true},
		{"/a", "/", true},
		{"/a/b", "/", true},
		{deep("abcdefgh", 8), "/", true},
		{"/a", "/a", true},
		{"/a/b", "/a/b", true},
		{deep("abcdefgh", 8), deep("abcdefgh", 8), true},
		{deep("abcdefgh", 8), deep("abcdefgh", 7), true},
		{deep("a", 8), "/a", true},
		{"/a/b/c", "/a/b", true},
		{"/a/b/c", "/a", true},
		{"/a/a", "/a", true},
		{"/", "/a", false},
		{"/a", "/a/b", false},
		{"/a", "/b", false},
		{"/b/a", "/a", false},
		{"/a/b", "/b", false},
		{"/a/b", "/b/a", false},
		{"/ab", "/a", false},
		{"/a", "/ab", false},
		{"/ab/c", "/a", false},
		{"/ab/c", "/a/b", false},
		{"/a/bc", "/a/b", false},
		{"/a/bc/d", "/a/b", false},
		{"/a_", "/a", false},
		{"/a0", "/a", false},
		{"/a/b", "/a/c", false},
		{"/a/b/c", "/a/c", false},
		{deep("abcdefgh", 7), deep("abcdefgh", 8), false},
		{deep("a", 7) + "/b", deep("a", 8), false},
		{deep("a", 7) + "/ab", deep("a", 8), false},
	} {
		if got := path.Inside(x.p, x.in); got != x.want {
			t.Errorf("Inside(%q, %q) is %v", x.p, x.in, got)
		}
	}
}

// P5.2: what is no path has nothing inside it, and is inside nothing.
func TestInsideOfWhatIsNoPath(t *testing.T) {
	for _, x := range []struct{ p, in string }{
		{"/a/b", "a"}, {"/a/b", ""}, {"/a/b", "/a/"}, {"/a/b", "//"}, {"/a/b", "/a//"},
		{"a", "/"}, {"", "/"}, {"//", "/"}, {"/a/", "/"}, {"/a/", "/a"}, {"/a//b", "/a"}, {"/a/B", "/a"}, {"/a/b/", "/a/b"}, {"/a/.", "/a"},
		{"", ""}, {"a", "a"}, {"a/b", "a"}, {"//", "//"}, {"/a/", "/a/"}, {"/A", "/A"}, {"/A/b", "/A"}, {"/.", "/."},
		{deep("a", 9), "/"}, {deep("a", 9), deep("a", 8)}, {deep("a", 9), deep("a", 9)}, {deep("a", 10), deep("a", 9)}, {deep("a", 8), deep("a", 9)},
		{"/abcdefghi", "/"}, {"/abcdefghi", "/abcdefgh"}, {"/abcdefghi", "/abcdefghi"}, {"/abcdefghi/a", "/abcdefghi"},
	} {
		if path.Inside(x.p, x.in) {
			t.Errorf("Inside(%q, %q) is true", x.p, x.in)
		}
	}
}

// P5.2: all pairs, by the names.
func TestInsideOfAllPairs(t *testing.T) {
	all := paths()
	for _, p := range append(short("/ab", 6), short("/a", 8)...) {
		if pathForm.MatchString(p) {
			all = append(all, p)
		}
	}
	for _, p := range all {
		for _, in := range all {
			l, ahead := namesOf(p), namesOf(in)
			want := len(ahead) <= len(l) && slices.Equal(l[:len(ahead)], ahead)
			if got := path.Inside(p, in); got != want {
				t.Errorf("Inside(%q, %q) is %v", p, in, got)
			}
		}
	}
}

// P5.3
func TestSplitOfJoin(t *testing.T) {
	some := []string{"a", "b", "_", "0z", "abcdefg", "abcdefgh"}
	for n := range 9 {
		for first := range some {
			for by := range some {
				l := make([]string, n)
				for i := range l {
					l[i] = some[(first+i*by)%len(some)]
				}
				p, err := path.Join(l)
				if err != api.OK {
					t.Fatalf("Join(%q): %v", l, err)
				}
				expectPath(t, p, l)
			}
		}
	}
}

// P5.3
func TestJoinOfSplit(t *testing.T) {
	for _, p := range append(paths(), short("/a", 12)...) {
		l, err := path.Split(p)
		if err != api.OK {
			if pathForm.MatchString(p) {
				t.Errorf("Split(%q): %v", p, err)
			}
			continue
		}
		if got, err := path.Join(l); got != p || err != api.OK {
			t.Errorf("Join of Split(%q) = %q, %v", p, got, err)
		}
	}
}

// P5.2, P5.3: what is above, and the last name behind it, are the path.
func TestJoinOfUp(t *testing.T) {
	for _, p := range paths() {
		dir, name, ok := path.Up(p)
		if ok != (p != "/") {
			t.Errorf("Up(%q) is %v", p, ok)
		}
		if !ok {
			continue
		}
		above, err := path.Split(dir)
		if err != api.OK || !path.Name(name) || !path.Inside(p, dir) || path.Inside(dir, p) {
			t.Errorf("Up(%q) = %q, %q", p, dir, name)
		}
		if got, err := path.Join(append(above, name)); got != p || err != api.OK {
			t.Errorf("Up(%q), joined: %q, %v", p, got, err)
		}
	}
}

// P5.1: what is told may be changed, its spare room too, and another answer is as it was.
func TestSplitIsTheCallersOwn(t *testing.T) {
	for _, p := range paths() {
		want := namesOf(p)
		one, _ := path.Split(p)
		two, _ := path.Split(p)
		for i := range one[:cap(one)] {
			one[:cap(one)][i] = "spoilt"
		}
		three, _ := path.Split(p)
		if !slices.Equal(two, want) || !slices.Equal(three, want) {
			t.Errorf("%q: %q, %q", p, two, three)
		}
	}
}

// P5.1: what was handed in is as it was, its spare room too.
func TestJoinChangesNothing(t *testing.T) {
	for _, l := range [][]string{{}, {"a"}, {"a", "b"}, slices.Repeat([]string{"a"}, 8), slices.Repeat([]string{"a"}, 9), {"a", "", "b"}, {"A"}} {
		room := append(slices.Clone(l), "spare", "", "room")
		before := slices.Clone(room)
		p, err := path.Join(room[:len(l)])
		if !slices.Equal(room, before) {
			t.Errorf("%q became %q", before, room)
		}
		for i := range room {
			room[i] = "spoilt"
		}
		if again, againErr := path.Join(l); p != again || err != againErr {
			t.Errorf("Join(%q) = %q, %v, then %q, %v", l, p, err, again, againErr)
		}
	}
}

// apart holds that no two of the texts share memory; those without bytes have none.
func apart(t *testing.T, what string, texts ...string) {
	t.Helper()
	for i, s := range texts {
		for j, u := range texts[:i] {
			if len(s) > 0 && len(u) > 0 && overlap(s, u) {
				t.Errorf("%s: %d and %d, %q and %q, share memory", what, j, i, u, s)
			}
		}
	}
}

func overlap(s, u string) bool {
	a, b := uintptr(unsafe.Pointer(unsafe.StringData(s))), uintptr(unsafe.Pointer(unsafe.StringData(u)))
	return a < b+uintptr(len(u)) && b < a+uintptr(len(s))
}

// P5.1, P5.2: no answer shares memory with what was handed in, nor with another answer.
func TestWhatIsToldIsNew(t *testing.T) {
	for _, p := range paths() {
		one, _ := path.Split(p)
		two, _ := path.Split(p)
		apart(t, "Split", slices.Concat([]string{p}, one, two)...)
		joined, _ := path.Join(one)
		again, _ := path.Join(one)
		apart(t, "Join", append(slices.Clone(one), joined, again)...)
		dir, name, _ := path.Up(p)
		dirAgain, nameAgain, _ := path.Up(p)
		apart(t, "Up", p, dir, name, dirAgain, nameAgain)
	}
}
