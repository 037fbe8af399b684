package path_test

import (
	"fmt"
	"slices"
	"strings"
	"sync"
	"testing"

	"packthread/api"
	"packthread/path"
)

// The limits, written out: they must not move with the program.
const (
	wide = 16  // bytes of a name
	deep = 12  // names
	long = 200 // bytes of a path
)

// short: a text, quoted; of a long one its beginning and its length.
func short(s string) string {
	if len(s) > 240 {
		return fmt.Sprintf("%q..%d", s[:40], len(s))
	}
	return fmt.Sprintf("%q", s)
}

// shorts: texts, quoted; of many the first ones and how many there are.
func shorts(l []string) string {
	var s []string
	for _, x := range l[:min(len(l), 20)] {
		s = append(s, short(x))
	}
	return fmt.Sprint(len(l), ": ", strings.Join(s, " "))
}

func isClean(t *testing.T, p string, want []string, code api.Errno) {
	if got, e := path.Clean(p); !slices.Equal(got, want) || e != code {
		t.Helper()
		t.Fatalf("Clean(%s): %s %d, want %s %d", short(p), shorts(got), e, shorts(want), code)
	}
}

func isJoin(t *testing.T, names []string, want string, code api.Errno) {
	if got, e := path.Join(names); got != want || e != code {
		t.Helper()
		t.Fatalf("Join(%s): %s %d, want %s %d", shorts(names), short(got), e, short(want), code)
	}
}

func isFollow(t *testing.T, names []string, p string, want []string, code api.Errno) {
	if got, e := path.Follow(names, p); !slices.Equal(got, want) || e != code {
		t.Helper()
		t.Fatalf("Follow(%s, %s): %s %d, want %s %d", shorts(names), short(p), shorts(got), e, shorts(want), code)
	}
}

// words: the words of a text, as names.
func words(s string) []string {
	return strings.Fields(s)
}

// names: n of them, no two alike, each of size bytes (of 2 at least).
func names(n, size int) []string {
	var l []string
	for i := range n {
		l = append(l, string([]byte{byte('a' + i)})+strings.Repeat("x", size-2)+string([]byte{byte('A' + i)}))
	}
	return l
}

// goodNames: names of many kinds.
func goodNames() []string {
	l := words("a ab ... .... ..a a.. .a a. a.b ..... -- ~ * ? [ \\ \\.. con nul %2f %00 &#47; a:b")
	l = append(l, " ", "  ", ". ", " .", ".. ", " ..", "a b", "\t", "\n", "\r\n", ".\n", "\x01", "\x7f", "\x80", "\xff", "\xff\xfe\xfd")
	l = append(l, "\xaf", "\xc0\xaf", "\xc0\x80", "\xe0\x80\xaf", "\xc0\xae", "\xc0\xae\xc0\xae", "\xe2\x88\x95", "\xef\xbc\x8f", "\u2024", "\u2025", "\u2026") // looks like a slash, a byte 0, or .
	l = append(l, strings.Repeat("a", wide), strings.Repeat(".", wide), strings.Repeat("\xff", wide), strings.Repeat("ä", wide/2), strings.Repeat("\U0001f9f5", wide/4), "a.b.c.d.e.f.g.hi", "0123456789abcdef")
	for n := 3; n <= wide; n++ {
		l = append(l, strings.Repeat(".", n), strings.Repeat("b", n))
	}
	return l
}

// badParts: what stands between slashes and is no name, nor left out.
func badParts() []string {
	l := []string{"\x00", "\x00\x00", "a\x00", "\x00a", "a\x00b", ".\x00", "\x00.", "..\x00", "\x00..", ".\x00.", "\xff\x00", "\x00\xff", "ä\x00"}
	for at := range wide {
		b := []byte(strings.Repeat("n", wide))
		b[at] = 0
		l = append(l, string(b))
	}
	for n := wide + 1; n < 40; n++ {
		l = append(l, strings.Repeat("a", n), strings.Repeat(".", n), strings.Repeat("\x00", n))
	}
	return append(l, strings.Repeat("ä", wide/2)+"a", strings.Repeat("ä", wide/2+1), strings.Repeat("ä", wide), "0123456789abcdefg", strings.Repeat("\xff", wide+1))
}

// noNames: what can't be a name of a list.
func noNames() []string {
	l := []string{"", ".", "..", "/", "//", "/a", "a/", "a/b", "./", "../", "/.", "/..", "a/../b", "\xff/", "/\x00", strings.Repeat("/", wide), strings.Repeat("a", 300), strings.Repeat("b", 65536+5)}
	for at := range wide {
		b := []byte(strings.Repeat("n", wide))
		b[at] = '/'
		l = append(l, string(b))
	}
	return append(l, badParts()...)
}

// P11.1: Clean.

func TestCleanOfNothing(t *testing.T) {
	for _, p := range []string{"", "/", "//", "///", strings.Repeat("/", 7), strings.Repeat("/", long), ".", "./", "/.", "/./", "./.", "././.", "//.//.//", "/././"} {
		isClean(t, p, nil, api.OK)
	}
}

func TestCleanOfOneName(t *testing.T) {
	for _, name := range goodNames() {
		for _, p := range []string{"%", "/%", "%/", "/%/", "//%", "%//", "///%///", "./%", "%/.", "/./%/./", "../%", "/../../%", "x/../%", "%/x/.."} {
			isClean(t, strings.ReplaceAll(p, "%", name), []string{name}, api.OK)
		}
	}
}

func TestCleanOfSeveralNames(t *testing.T) {
	for p, want := range map[string]string{
		"a/b": "a b", "/a/b": "a b", "a/b/": "a b", "/a/b/": "a b", "//a//b//": "a b", "/a/./b/.": "a b", "a///./././//b": "a b",
		"b/a": "b a", "a/a": "a a", "a/a/a": "a a a", "c/b/a": "c b a", "a/ab/abc": "a ab abc",
		"/a//b/./c/../d/": "a b d", "..a/b..": "..a b..", ".../a": "... a", "a/....": "a ....",
	} {
		isClean(t, p, words(want), api.OK)
	}
	good := goodNames()
	for i := range good {
		l := []string{good[i], good[(i*7+3)%len(good)], good[(i*5+1)%len(good)], good[i]}
		isClean(t, "/"+strings.Join(l, "/"), l, api.OK)
		isClean(t, strings.Join(l, "//")+"/.", l, api.OK)
	}
}

func TestCleanTakesTheLastNameAway(t *testing.T) {
	for p, want := range map[string]string{
		"a/..": "", "/a/..": "", "a/../": "", "a/../.": "", "a/./..": "", "a//..": "", "a/b/..": "a", "a/b/../": "a", "/a/b/../c": "a c",
		"a/b/../..": "", "a/b/c/../../d": "a d", "a/../b": "b", "a/../a": "a", "a/../b/../c": "c", "a/b/.././../c/d": "c d", "a/b//..//..//c": "c",
		"a/b/c/../d/../e": "a b e", "a/.../..": "a", "a/../...": "...",
	} {
		isClean(t, p, words(want), api.OK)
	}
}

func TestCleanTakesNothingAwayWhereNothingIs(t *testing.T) {
	for p, want := range map[string]string{
		"..": "", "/..": "", "../": "", "/../": "", "../..": "", "/../../..": "", "../../x": "x", "/../x": "x", "../a/b": "a b",
		"a/../..": "", "a/../../..": "", "a/../../b": "b", "a/b/../../../../c/d": "c d", "../a/../../b/..": "", "./../.": "", "../x/..": "",
	} {
		isClean(t, p, words(want), api.OK)
	}
	for n := range 60 {
		isClean(t, strings.Repeat("../", n)+"a/b", words("a b"), api.OK)
		isClean(t, "a/b/"+strings.Repeat("../", n), words("a b")[:max(0, 2-n)], api.OK)
	}
}

func TestCleanOfAllBytes(t *testing.T) {
	for v := range 256 {
		b := string([]byte{byte(v)})
		switch b {
		case "\x00":
			isClean(t, b, nil, api.ErrForm)
			isClean(t, "a"+b+"c", nil, api.ErrForm)
		case "/":
			isClean(t, b, nil, api.OK)
			isClean(t, "a"+b+"c", words("a c"), api.OK)
		case ".":
			isClean(t, b, nil, api.OK)
			isClean(t, "a"+b+"c", []string{"a.c"}, api.OK)
		default:
			isClean(t, b, []string{b}, api.OK)
			isClean(t, "a"+b+"c/"+b, []string{"a" + b + "c", b}, api.OK)
		}
	}
}

func TestCleanOfNamesOfEachLength(t *testing.T) {
	for n := 1; n <= long; n++ {
		for _, fill := range []string{"a", "-", "\xff"} {
			name := strings.Repeat(fill, n)
			if n <= wide {
				isClean(t, name, []string{name}, api.OK)
				isClean(t, "/x/"+name+"/y", []string{"x", name, "y"}, api.OK)
			} else {
				isClean(t, name, nil, api.ErrForm)
				if n+5 <= long {
					isClean(t, "/x/"+name+"/y", nil, api.ErrForm)
				}
			}
		}
	}
}

func TestCleanOfWhatIsNoName(t *testing.T) {
	for _, bad := range badParts() {
		for _, p := range []string{"%", "/%", "%/", "a/%", "%/a", "/a/%/b/", "../%", "./%", "//%", "%/..", "a/%/../..", "%/../b", "a/../%", "%/%"} {
			isClean(t, strings.ReplaceAll(p, "%", bad), nil, api.ErrForm)
		}
	}
}

func TestCleanOfPathsOfEachLength(t *testing.T) {
	const tens = "/abcdefghi/klmnopqrs/uvwxyzABC"
	want := words("abcdefghi klmnopqrs uvwxyzABC")
	for n := range 2 * long {
		code, kept := api.OK, want
		if n > long {
			code, kept = api.ErrSize, nil
		}
		isClean(t, strings.Repeat("/", n), nil, code)
		isClean(t, strings.Repeat("./", n)[:n], nil, code)
		isClean(t, strings.Repeat("/..", n)[:n-n%3]+"///"[:n%3], nil, code)
		if n >= len(tens) {
			more := strings.Repeat("/", n-len(tens))
			isClean(t, tens+more, kept, code)
			isClean(t, more+tens, kept, code)
			isClean(t, tens[:10]+more+tens[10:], kept, code)
		}
	}
}

func TestCleanOfTheLongestPaths(t *testing.T) {
	l := names(deep, wide) // 12 names of 16 bytes, and 11 slashes: 203 bytes
	l[0] = l[0][:wide-3]
	p := strings.Join(l, "/")
	if len(p) != long {
		t.Fatalf("%d bytes", len(p))
	}
	isClean(t, p, l, api.OK)
	isClean(t, "/"+p, nil, api.ErrSize)
	isClean(t, p+"/", nil, api.ErrSize)
	isClean(t, strings.Join(names(deep, wide), "/"), nil, api.ErrSize)
	isClean(t, "/"+strings.Join(names(11, wide), "/"), names(11, wide), api.OK)
}

func TestCleanOfPathsThatAreTooLong(t *testing.T) {
	for _, n := range []int{long + 1, long + 2, 255, 256, 257, 512, 4096, 65536, 65537, 65536 + long, 1 << 20, 1<<24 + 3} {
		for _, part := range []string{"/", "a", "a/", "./", "../", "a/../", "\x00", ".", "abcdefghijklmnopq/", "a/b/c/d/e/f/g/h/i/j/k/l/m/"} {
			isClean(t, strings.Repeat(part, n/len(part)+1)[:n], nil, api.ErrSize)
		}
	}
}

func TestCleanOfEachDepth(t *testing.T) {
	for n := range 40 {
		want, code := names(n, 4), api.OK
		p := strings.Join(want, "/")
		if n > deep {
			want, code = nil, api.ErrFull
		}
		for _, x := range []string{p, "/" + p, p + "/", "/./" + p + "/.", "../" + p} {
			isClean(t, x[:min(len(x), long)], want, code)
		}
	}
	isClean(t, strings.Repeat("/a", 99), nil, api.ErrFull)
}

func TestCleanCountsWhatIsThereAtATime(t *testing.T) {
	full := strings.Repeat("a/", deep)
	all := slices.Repeat([]string{"a"}, deep)
	isClean(t, full+"../b", append(slices.Clone(all[1:]), "b"), api.OK)
	isClean(t, full+"..", all[1:], api.OK)
	isClean(t, full+"../..", all[2:], api.OK)
	isClean(t, full+"../../b/c", append(slices.Clone(all[2:]), "b", "c"), api.OK)
	isClean(t, "x/../"+full, all, api.OK)
	isClean(t, "../"+full, all, api.OK)
	isClean(t, full+".", all, api.OK)
	isClean(t, full+"./", all, api.OK)
	isClean(t, full+"/", all, api.OK)
	isClean(t, strings.Repeat("a/../", 39)+"b", words("b"), api.OK)
	isClean(t, full+strings.Repeat("../b/", 30), append(slices.Clone(all[1:]), "b"), api.OK)

	isClean(t, full+"b", nil, api.ErrFull)
	isClean(t, full+"b/..", nil, api.ErrFull) // it would be there, though it goes again
	isClean(t, full+"./b/../..", nil, api.ErrFull)
	isClean(t, full+"../b/c", nil, api.ErrFull)
	isClean(t, full+"../../b/c/d/../../..", nil, api.ErrFull)
	isClean(t, "../"+full+"b", nil, api.ErrFull)
	isClean(t, "x/../"+full+"b/..", nil, api.ErrFull)
}

func TestCleanTellsTheFirstPartThatIsRefused(t *testing.T) {
	full := strings.Repeat("a/", deep)
	for _, bad := range badParts() {
		isClean(t, full+bad, nil, api.ErrForm) // where there is no room for a name, either
		isClean(t, full+"./"+bad, nil, api.ErrForm)
		isClean(t, full+"../"+bad, nil, api.ErrForm)
		isClean(t, bad+"/"+full+"b", nil, api.ErrForm)
		isClean(t, full+bad+"/b", nil, api.ErrForm)
		isClean(t, full+"b/"+bad, nil, api.ErrFull)
		isClean(t, full+"b/../"+bad, nil, api.ErrFull)
		isClean(t, full+"b/c/"+bad+"/d", nil, api.ErrFull)
		isClean(t, bad+strings.Repeat("/", long-len(bad)), nil, api.ErrForm)
		isClean(t, bad+strings.Repeat("/", long-len(bad)+1), nil, api.ErrSize)
	}
	isClean(t, full+strings.Repeat("/", long-len(full)-1)+"b", nil, api.ErrFull)
	isClean(t, full+strings.Repeat("/", long-len(full))+"b", nil, api.ErrSize)
}

// P11.2: Join.

func TestJoin(t *testing.T) {
	isJoin(t, nil, "/", api.OK)
	isJoin(t, []string{}, "/", api.OK)
	isJoin(t, words("a b c")[:0], "/", api.OK)
	isJoin(t, words("a"), "/a", api.OK)
	isJoin(t, words("a b"), "/a/b", api.OK)
	isJoin(t, words("b a"), "/b/a", api.OK)
	isJoin(t, words("a a a"), "/a/a/a", api.OK)
	isJoin(t, words("... ..a a.. .a"), "/.../..a/a../.a", api.OK)
	for _, name := range goodNames() {
		isJoin(t, []string{name}, "/"+name, api.OK)
		isJoin(t, []string{"a", name, "b"}, "/a/"+name+"/b", api.OK)
	}
}

func TestJoinOfEachDepth(t *testing.T) {
	for n := range 40 {
		for _, size := range []int{2, 5, wide - 1, wide} { // the path may be longer than one that Clean takes
			l := names(n, size)
			if n > deep {
				isJoin(t, l, "", api.ErrFull)
				continue
			}
			want := ""
			for _, name := range l {
				want += "/" + name
			}
			isJoin(t, l, max(want, "/"), api.OK)
		}
	}
	for _, n := range []int{100, 255, 256, 65536, 65536 + 3, 1 << 20} {
		isJoin(t, slices.Repeat([]string{"a"}, n), "", api.ErrFull)
		isJoin(t, make([]string, n), "", api.ErrFull)
	}
	isJoin(t, append(make([]string, 0, 99), words("a b")...), "/a/b", api.OK) // spare room does not count
}

func TestJoinOfWhatIsNoName(t *testing.T) {
	for _, bad := range noNames() {
		isJoin(t, []string{bad}, "", api.ErrForm)
		for _, n := range []int{2, 3, deep} {
			for at := range n {
				l := names(n, 5)
				l[at] = bad
				isJoin(t, l, "", api.ErrForm)
			}
		}
		isJoin(t, slices.Repeat([]string{bad}, deep), "", api.ErrForm)
		for at := range deep + 1 { // of both errors ErrFull is named first
			l := names(deep+1, 5)
			l[at] = bad
			isJoin(t, l, "", api.ErrFull)
		}
		isJoin(t, slices.Repeat([]string{bad}, deep+1), "", api.ErrFull)
	}
}

// P11.3: Follow.

func TestFollow(t *testing.T) {
	for _, c := range [][3]string{
		{"", "", ""}, {"", "a", "a"}, {"", "..", ""}, {"", "../a/..", ""}, {"", "/", ""}, {"", "/a/b", "a b"},
		{"a", "", "a"}, {"a", ".", "a"}, {"a", "./", "a"}, {"a", "b", "a b"}, {"a", "b/", "a b"}, {"a", "./b", "a b"}, {"a", "a", "a a"},
		{"a", "..", ""}, {"a", "../", ""}, {"a", "../b", "b"}, {"a", "b/..", "a"}, {"a", "b/../..", ""}, {"a", "./../b", "b"}, {"a", "b/../../c", "c"},
		{"a b", "../c", "a c"}, {"a b", "..", "a"}, {"a b", "../..", ""}, {"a b", "c/d", "a b c d"}, {"a b", "c//d", "a b c d"}, {"a b", "b/../../c", "a c"},
		{"a b", "../../..", ""}, {"a b", "../../../..", ""}, {"a b", "../../../c", "c"}, {"a b", "../../../../../c/../d", "d"}, // up to above all
		{"a b", "/c", "c"}, {"a b", "/", ""}, {"a b", "//", ""}, {"a b", "/.", ""}, {"a b", "/..", ""}, {"a b", "/../c", "c"}, {"a b", "//c", "c"}, {"a b", "/c/d/..", "c"}, {"a b", "/a/b/c", "a b c"},
		{"a b", ".../..a", "a b ... ..a"}, {"... ..a", "..", "..."}, {"... ..a", "../.a", "... .a"}, {"a b", "\\c", "a b \\c"},
	} {
		isFollow(t, words(c[0]), c[1], words(c[2]), api.OK)
	}
}

func TestFollowOfOneName(t *testing.T) {
	for _, name := range goodNames() {
		isFollow(t, nil, name, []string{name}, api.OK)
		isFollow(t, words("a b"), name, []string{"a", "b", name}, api.OK)
		isFollow(t, words("a b"), "/"+name, []string{name}, api.OK)
		isFollow(t, []string{"a", name}, "b", []string{"a", name, "b"}, api.OK)
		isFollow(t, []string{"a", name}, "../b", words("a b"), api.OK)
		isFollow(t, []string{name}, "", []string{name}, api.OK)
		isFollow(t, []string{name}, "/b", words("b"), api.OK)
	}
}

func TestFollowFromEachDepth(t *testing.T) {
	for n := range deep + 1 {
		for _, size := range []int{2, 9, wide} {
			l := names(n, size)
			isFollow(t, l, "", l, api.OK)
			isFollow(t, l, ".", l, api.OK)
			isFollow(t, l, "/", nil, api.OK)
			isFollow(t, l, "/z", words("z"), api.OK)
			isFollow(t, l, "../z", append(slices.Clone(l[:max(0, n-1)]), "z"), api.OK)
			for up := range 30 {
				isFollow(t, l, strings.Repeat("../", up), l[:max(0, n-up)], api.OK)
			}
			for more := range 30 {
				if n+more <= deep {
					isFollow(t, l, strings.Repeat("z/", more), append(slices.Clone(l), slices.Repeat([]string{"z"}, more)...), api.OK)
				} else {
					isFollow(t, l, strings.Repeat("z/", more), nil, api.ErrFull)
				}
			}
		}
	}
}

func TestFollowCountsWhatIsThereAtATime(t *testing.T) {
	full := names(deep, 5)
	isFollow(t, full, "../z", append(slices.Clone(full[:deep-1]), "z"), api.OK)
	isFollow(t, full, "../../y/z", append(slices.Clone(full[:deep-2]), "y", "z"), api.OK)
	isFollow(t, full, strings.Repeat("../z/", 40), append(slices.Clone(full[:deep-1]), "z"), api.OK)
	isFollow(t, full, "z", nil, api.ErrFull)
	isFollow(t, full, "z/..", nil, api.ErrFull)
	isFollow(t, full, "./z/../..", nil, api.ErrFull)
	isFollow(t, full, "../y/z", nil, api.ErrFull)
	isFollow(t, full, "/"+strings.Repeat("z/", deep), slices.Repeat([]string{"z"}, deep), api.OK)
	isFollow(t, full, "/"+strings.Repeat("z/", deep+1), nil, api.ErrFull)
}

func TestFollowOfPathsOfEachLength(t *testing.T) {
	for n := range 2 * long {
		for _, l := range [][]string{nil, words("a b"), names(deep, wide)} { // the names do not count to its bytes
			if n > long {
				isFollow(t, l, strings.Repeat("./", n)[:n], nil, api.ErrSize)
				isFollow(t, l, strings.Repeat("/", n), nil, api.ErrSize)
			} else {
				isFollow(t, l, strings.Repeat("./", n)[:n], l, api.OK)
				if n > 0 {
					isFollow(t, l, strings.Repeat("/", n), nil, api.OK)
				}
			}
		}
	}
	for _, n := range []int{256, 65536, 65536 + 7, 1 << 20} {
		isFollow(t, words("a b"), strings.Repeat("c", n), nil, api.ErrSize)
		isFollow(t, words("a b"), strings.Repeat("/c", n), nil, api.ErrSize)
	}
}

// somePaths: those that Clean takes, and those that it refuses with each error.
func somePaths() []string {
	l := []string{"", ".", "..", "../..", "a", "a/b", "/", "/a", "//", "/a/b", "/..", "/.", strings.Repeat("../", deep+1)}
	for _, p := range []string{strings.Repeat("a/", deep+1), strings.Repeat("/", long+1), strings.Repeat("x", long+1), "\x00", strings.Repeat("a", wide+1), "a/\x00/b"} {
		l = append(l, p, "/"+p, "../"+p)
	}
	return l
}

func TestFollowFromNamesThatJoinRefuses(t *testing.T) {
	for _, p := range somePaths() { // whatever the path would come to, and if it begins with a slash, too
		for _, bad := range noNames() {
			for _, n := range []int{1, 2, deep} {
				for _, at := range []int{0, n / 2, n - 1} {
					l := names(n, 5)
					l[at] = bad
					isFollow(t, l, p, nil, api.ErrForm)
				}
			}
			for _, at := range []int{0, 5, deep} {
				l := names(deep+1, 5)
				l[at] = bad
				isFollow(t, l, p, nil, api.ErrFull)
			}
		}
		for _, n := range []int{deep + 1, deep + 2, 30, 256, 65536 + 2} {
			isFollow(t, slices.Repeat([]string{"a"}, n), p, nil, api.ErrFull)
			isFollow(t, make([]string, n), p, nil, api.ErrFull)
		}
	}
}

func TestFollowTellsTheFirstPartThatIsRefused(t *testing.T) {
	full := names(deep, wide)
	for _, bad := range badParts() {
		for _, l := range [][]string{nil, words("a"), full} {
			for _, p := range []string{"%", "/%", "../%", "../../%", "./%", "%/..", "%/b", "../b/%", "%/b/c/d", "/b/%/c"} {
				isFollow(t, l, strings.ReplaceAll(p, "%", bad), nil, api.ErrForm)
			}
			isFollow(t, l, bad+strings.Repeat("/", long-len(bad)), nil, api.ErrForm)
			isFollow(t, l, bad+strings.Repeat("/", long-len(bad)+1), nil, api.ErrSize)
		}
		isFollow(t, full, "b/"+bad, nil, api.ErrFull)
		isFollow(t, full, "b/../"+bad, nil, api.ErrFull)
		isFollow(t, full, "../b/c/"+bad, nil, api.ErrFull)
		isFollow(t, full[1:], "b/c/"+bad, nil, api.ErrFull)
	}
	isFollow(t, full, strings.Repeat("./", long/2-1)+"/b", nil, api.ErrFull)
	isFollow(t, full, strings.Repeat("./", long/2)+"b", nil, api.ErrSize)
}

// left: the names behind these, told from the last one on: for each .. the next name ahead that still stands is left out.
func left(parts []string) []string {
	var l []string
	out := 0
	for _, part := range slices.Backward(parts) {
		switch {
		case part == "" || part == ".":
		case part == "..":
			out++
		case out > 0:
			out--
		default:
			l = append([]string{part}, l...)
		}
	}
	return l
}

// told: what a path comes to from names on, told for each of its beginnings anew.
func told(from []string, p string) ([]string, api.Errno) {
	if strings.HasPrefix(p, "/") {
		from = nil
	}
	parts := slices.Concat(from, strings.Split(p, "/"))
	for n := len(from); n < len(parts); n++ {
		switch {
		case len(parts[n]) > wide || strings.Contains(parts[n], "\x00"):
			return nil, api.ErrForm
		case len(left(parts[:n+1])) > deep:
			return nil, api.ErrFull
		}
	}
	return left(parts), api.OK
}

// isTold: Clean and Follow of a path, from several names on.
func isTold(t *testing.T, p string, starts [][]string) {
	t.Helper()
	want, code := told(nil, p)
	isClean(t, p, want, code)
	for _, l := range starts {
		want, code := told(l, p)
		isFollow(t, l, p, want, code)
	}
}

func TestAllShortPaths(t *testing.T) {
	starts := [][]string{words("a"), words("b \xff ..."), names(deep, 3)}
	const values = "/.a\x00\xff"
	all := []string{""}
	for n := 0; n <= 7; n++ {
		var next []string
		for _, p := range all {
			isTold(t, p, starts)
			for i := range len(values) {
				next = append(next, p+values[i:i+1])
			}
		}
		all = next
	}
}

func TestAllFewParts(t *testing.T) {
	values := []string{"", ".", "..", "a", "..b", strings.Repeat("c", wide), strings.Repeat("d", wide+1), "e\x00"}
	starts := [][]string{nil, words("x"), words("x y"), names(deep-1, 3), names(deep, wide)}
	all := []string{"", "/"}
	for range 5 {
		var next []string
		for _, p := range all {
			isTold(t, p, starts)
			for _, v := range values {
				next = append(next, p+v+"/", p+"/"+v)
			}
		}
		slices.Sort(next)
		all = slices.Compact(next)
	}
}

func TestLongPaths(t *testing.T) {
	parts := []string{"..", "..", "..", "..", "", ".", "a", "b", "cc", "ddd", "0123456789abcdef", "...", "\xff", "..e"}
	starts := [][]string{words("x y z"), names(7, 4), names(deep, wide)}
	x := uint32(1)
	for range 3000 {
		p := ""
		for len(p) <= long-wide-1 {
			x = x*1664525 + 1013904223
			p += parts[x>>8%uint32(len(parts))] + "/"
			if x>>24 < 5 {
				break
			}
		}
		isTold(t, p, starts)
		isTold(t, "/"+p[:len(p)-1], starts)
	}
}

// What comes of it: what is clean stays as it is.

func TestWhatIsCleanStays(t *testing.T) {
	lists := [][]string{nil, goodNames()[:deep]}
	for n := range deep + 1 {
		lists = append(lists, names(n, 2), names(n, 9), names(n, wide-1))
	}
	for _, name := range goodNames() {
		lists = append(lists, []string{name}, []string{name, "b", name})
	}
	for _, l := range lists {
		p, code := path.Join(l)
		if code != api.OK {
			t.Fatalf("Join(%s): %d", shorts(l), code)
		}
		isClean(t, p, l, api.OK)
		isFollow(t, words("x y"), p, l, api.OK)
		isFollow(t, l, "", l, api.OK)
		isFollow(t, nil, p[1:], l, api.OK)
	}
}

func TestWhatIsFollowedIsClean(t *testing.T) {
	for _, a := range []string{"", "/", "a", "/a/b", "../a/./b", "a/b/../c", "a/b/c/d/e/f/g/h/i/j/k/l"} {
		l, _ := path.Clean(a)
		for _, b := range []string{"", ".", "..", "../..", "x", "x/y", "./x", "../x", "../../../x/..", "x/../../y", "x//y/", "...", "\x00", strings.Repeat("x", wide+1)} {
			want, code := path.Clean(a + "/" + b)
			isFollow(t, l, b, want, code)
			want, code = path.Clean("/" + b)
			isFollow(t, l, "/"+b, want, code)
		}
	}
}

func TestNamesMayHaveAPathThatIsTooLong(t *testing.T) {
	full := names(deep, wide) // of 204 bytes with the slashes
	want := "/" + strings.Join(full, "/")
	isJoin(t, full, want, api.OK)
	isClean(t, want, nil, api.ErrSize)
	isFollow(t, nil, want, nil, api.ErrSize)
	isFollow(t, full, "", full, api.OK)
	isFollow(t, full[:deep-1], full[deep-1], full, api.OK)
}

// What holds everywhere.

// roomy: the same names, with others in spare room behind them.
func roomy(l []string) []string {
	return append(slices.Clone(l), "room1", "room2", "..", "", "room5")[:len(l)]
}

func TestWhatIsHandedInIsNotChanged(t *testing.T) {
	lists := [][]string{nil, words("a"), words("a b c"), names(deep-1, 4), names(deep, 4), names(deep+1, 4), {"a", "", "b"}, {".."}, {"a", "/", "."}}
	paths := append(somePaths(), "z", "z/y", "../z", "../../z/y", "z/../y", "/z/y/x", "./z", "../z/../y/../x/w")
	for _, l := range lists {
		given := roomy(l)
		was := slices.Clone(given[:len(l)+5])
		path.Join(given)
		for _, p := range paths {
			path.Follow(given, p)
			if !slices.Equal(given[:len(l)+5], was) {
				t.Fatalf("Follow(%s, %s): %s, was %s", shorts(l), short(p), shorts(given[:len(l)+5]), shorts(was))
			}
		}
	}
}

// fill: over all that a list has room for.
func fill(l []string) {
	for i := range l[:cap(l)] {
		l[:cap(l)][i] = "filled"
	}
}

func TestCleanAnswersNewMemory(t *testing.T) {
	for _, p := range []string{"", "/", "a", "/a/b/c", "a/b/../c", "a/b/../..", "../x", strings.Repeat("a/", deep)} {
		want, _ := told(nil, p)
		one, _ := path.Clean(p)
		two, _ := path.Clean(p)
		fill(one)
		if !slices.Equal(two, want) {
			t.Fatalf("what Clean(%s) answers is shared: %s", short(p), shorts(two))
		}
		isClean(t, p, want, api.OK)
	}
}

func TestFollowAnswersNewMemory(t *testing.T) {
	for n := range deep {
		for _, p := range []string{"", ".", "..", "z", "../z", "z/..", "../../y/z", "../..", "/", "/z", "/y/z/.."} {
			l := roomy(names(n, 4))
			want, _ := told(l, p)
			one, _ := path.Follow(l, p)
			two, _ := path.Follow(l, p)
			fill(one)
			if !slices.Equal(l[:n+5], roomy(names(n, 4))[:n+5]) {
				t.Fatalf("Follow(%s, %s): what it answers is what it was given", shorts(l), short(p))
			}
			fill(l)
			if !slices.Equal(two, want) {
				t.Fatalf("Follow(%s, %s): what it answers is shared: %s", shorts(names(n, 4)), short(p), shorts(two))
			}
		}
	}
}

// ask: all that is told of a path, and of names.
func ask(l []string, p string) string {
	cleaned, code := path.Clean(p)
	text := fmt.Sprintln(cleaned, code)
	joined, code := path.Join(l)
	text += fmt.Sprintln(joined, code)
	followed, code := path.Follow(l, p)
	return text + fmt.Sprintln(followed, code)
}

func TestAnswersHangOnArgumentsAlone(t *testing.T) {
	lists := [][]string{nil, words("a"), words("a b c"), names(deep, 4), names(deep+1, 4), {""}}
	paths := somePaths()
	var first []string
	for _, p := range paths {
		for _, l := range lists {
			first = append(first, ask(l, p))
		}
	}
	var hands sync.WaitGroup
	for range 4 {
		hands.Go(func() {
			for i, p := range slices.Backward(paths) {
				for k, l := range slices.Backward(lists) {
					if now := ask(l, p); now != first[i*len(lists)+k] {
						t.Errorf("%s, %s: %s, first %s", shorts(l), short(p), now, first[i*len(lists)+k])
					}
				}
			}
		})
	}
	hands.Wait()
}
