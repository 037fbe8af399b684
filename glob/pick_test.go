package glob_test

import (
	"fmt"
	"slices"
	"strings"
	"testing"
)

// P17.2: Pick.

func TestPickOfNoNames(t *testing.T) {
	for _, pattern := range []string{"", "*", "a", "[a]", "?", "\\a"} {
		isPick(t, pattern, nil, nil, ok)
		isPick(t, pattern, []string{}, nil, ok)
		isPick(t, pattern, append(make([]string, 0, 9), "a")[:0], nil, ok)
	}
}

func TestPick(t *testing.T) {
	for _, c := range [][3]string{
		{"a?", "ab a xa az", "ab az"}, {"*", "b a c", "b a c"}, {"a", "a b a c a", "a a a"}, {"a", "b c d", ""}, {"a*", "ba a ab b aab", "a ab aab"}, {"*a", "ba a ab b aab bba", "ba a bba"},
		{"[a-c]", "d c b a @ cc", "c b a"}, {"[^a-c]", "d c b a @ cc", "d @"}, {"\\*", "* a ** *", "* *"}, {"?", "a ä b", "a b"}, {"a*c", "abbc abbd ac c a", "abbc ac"}, {"", "a b", ""}, {"z", "z", "z"},
		{"[a-]*", "-x ax bx b-", "-x ax"},
	} {
		isPick(t, c[0], strings.Fields(c[1]), strings.Fields(c[2]), ok)
	}
	isPick(t, "", []string{"", "a", "", "b"}, []string{"", ""}, ok)
	isPick(t, "*", []string{"", "", ""}, []string{"", "", ""}, ok)
	isPick(t, "?", []string{"\xff", "", "\xfe\xff", "\x00", "\x00\x00"}, []string{"\xff", "\x00"}, ok)
	isPick(t, "*/*", []string{"/", "a/", "ab", "/b", "a/b/c"}, []string{"/", "a/", "/b", "a/b/c"}, ok)
}

// numbered: n names, no two alike.
func numbered(n int) (l []string) {
	for i := range n {
		l = append(l, fmt.Sprintf("%cn%02d", 'a'+i*7%26, i))
	}
	return l
}

func TestPickOfEachCount(t *testing.T) {
	for n := range 2 * lists {
		l := numbered(n)
		if n > lists {
			for _, pattern := range []string{"*", "", "a", "[a]*"} {
				isPick(t, pattern, l, nil, errSize)
				isPick(t, pattern, make([]string, n), nil, errSize)
			}
			continue
		}
		isPick(t, "*", l, l, ok)
		isPick(t, "?n??", l, l, ok)
		isPick(t, "?n???", l, nil, ok)
		for at := range l {
			isPick(t, l[at], l, l[at:at+1], ok)
			isPick(t, "*"+l[at][1:], l, l[at:at+1], ok)
		}
	}
	for _, n := range []int{256, 257, 65536, 65536 + 3, 1 << 20} {
		isPick(t, "*", make([]string, n), nil, errSize)
		isPick(t, "a", slices.Repeat([]string{"a"}, n), nil, errSize)
	}
	isPick(t, "*", append(make([]string, 0, 999), "a", "b"), []string{"a", "b"}, ok) // spare room does not count
}

// TestOrder: they stay in theirs, whatever it is.
func TestOrder(t *testing.T) {
	l := numbered(lists)
	back := slices.Clone(l)
	slices.Reverse(back)
	sorted := slices.Sorted(slices.Values(l))
	for _, names := range [][]string{l, back, sorted, append(slices.Clone(l[40:]), l[:40]...)} {
		for _, keep := range []string{"a", "h", "aeiou", "abcdefghijklm", "n", "zyx"} {
			var want []string
			for _, name := range names {
				if strings.Contains(keep, name[:1]) {
					want = append(want, name)
				}
			}
			isPick(t, "["+keep+"]*", names, want, ok)
		}
		isPick(t, "*", names, names, ok)
	}
}

// TestPickedTwice: a name that stands there twice is told twice.
func TestPickedTwice(t *testing.T) {
	isPick(t, "a*", []string{"ab", "ac", "ab"}, []string{"ab", "ac", "ab"}, ok)
	isPick(t, "a*", []string{"ab", "ab", "b", "ab"}, []string{"ab", "ab", "ab"}, ok)
	isPick(t, "b", []string{"ab", "ab", "b", "ab"}, []string{"b"}, ok)
	isPick(t, "x", slices.Repeat([]string{"x"}, lists), slices.Repeat([]string{"x"}, lists), ok)
	isPick(t, "x", slices.Repeat([]string{"x", "y"}, lists/2), slices.Repeat([]string{"x"}, lists/2), ok)
}

// TestLongNamesInEachPlace: one of MaxPath bytes may be, and one with a byte more may not, wherever it stands, and whether the pattern is of it or not.
func TestLongNamesInEachPlace(t *testing.T) {
	for _, n := range []int{1, 2, 3, lists - 1, lists} {
		for at := range n {
			for _, pattern := range []string{"*", "x*", "a*", "?n??", ""} {
				l := numbered(n)
				l[at] = strings.Repeat("x", long)
				var want []string
				for i, name := range l {
					if pattern == "*" || pattern == "x*" && name[0] == 'x' || pattern == "a*" && name[0] == 'a' || pattern == "?n??" && i != at {
						want = append(want, name)
					}
				}
				isPick(t, pattern, l, want, ok)
				for _, more := range []int{1, 2, 56, 65536 - long + 3} {
					l[at] = strings.Repeat("x", long+more)
					isPick(t, pattern, l, nil, errSize)
				}
			}
		}
	}
	isPick(t, "*", slices.Repeat([]string{strings.Repeat("x", long)}, lists), slices.Repeat([]string{strings.Repeat("x", long)}, lists), ok)
	isPick(t, "*", slices.Repeat([]string{strings.Repeat("x", long+1)}, lists), nil, errSize)
	isPick(t, "*", slices.Repeat([]string{strings.Repeat("x", long+1)}, lists+1), nil, errSize)
}

// TestPickFormAheadOfSize: of all errors ErrForm is named first.
func TestPickFormAheadOfSize(t *testing.T) {
	for _, pattern := range noPatterns() {
		for _, n := range []int{0, 1, 2, lists, lists + 1, 300} {
			isPick(t, pattern, numbered(n), nil, errForm)
			for at := range min(n, 3) {
				l := numbered(n)
				l[at] = strings.Repeat("x", long+1)
				isPick(t, pattern, l, nil, errForm)
			}
		}
	}
}
