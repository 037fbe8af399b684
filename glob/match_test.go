package glob_test

import (
	"strings"
	"testing"
)

// P17.2: Match.

func TestNamesOfEachLength(t *testing.T) {
	for n := range 2 * long {
		code := ok
		if n > long {
			code = errSize
		}
		for _, fill := range []string{"a", "\xff", "/", "*"} {
			name := strings.Repeat(fill, n)
			isMatch(t, "*", name, n <= long, code)
			isMatch(t, "**", name, n <= long, code)
			isMatch(t, "", name, n == 0, code)
			isMatch(t, "?", name, n == 1, code)
			isMatch(t, "?*", name, 1 <= n && n <= long, code)
			isMatch(t, "*?", name, 1 <= n && n <= long, code)
			isMatch(t, strings.Repeat("?", most), name, n == most, code)
			isMatch(t, strings.Repeat("?", most-1)+"*", name, most-1 <= n && n <= long, code)
			isMatch(t, "x*", name, false, code)
			isMatch(t, "*x", name, false, code)
		}
	}
}

func TestNamesThatAreTooLong(t *testing.T) {
	for _, n := range []int{long + 1, long + 2, 255, 256, 257, 512, 65536, 65536 + 1, 65536 + long, 1 << 20, 1<<24 + 3} {
		for _, fill := range []string{"a", "ä", "\x00", "*", "ab"} {
			name := strings.Repeat(fill, n/len(fill)+1)[:n]
			for _, pattern := range []string{"*", "", "a", "?", name[:20], "[a]*", "b*", "\\a*", "*\\a", "****", "[^a]"} {
				if name[0] != '*' || pattern != "" {
					isMatch(t, pattern, name, false, errSize)
				}
			}
		}
	}
	isMatch(t, "*", strings.Repeat("ä", long/2), true, ok) // bytes are counted
	isMatch(t, "*", strings.Repeat("ä", long/2)+"a", false, errSize)
}

// TestFormAheadOfSize: of both errors ErrForm is named first.
func TestFormAheadOfSize(t *testing.T) {
	for _, pattern := range noPatterns() {
		for _, n := range []int{0, 1, long, long + 1, 65536} {
			isMatch(t, pattern, strings.Repeat("a", n), false, errForm)
			isMatch(t, pattern, strings.Repeat(pattern, n/len(pattern)+1), false, errForm)
		}
	}
}

// noPatterns: bytes that are no pattern, for each reason, alone and within others.
func noPatterns() []string {
	var l []string
	for _, s := range []string{"[", "[a", "[^", "[^a", "[]", "[^]", "[\\]", "[a\\b]", "[a\\]", "[b-a]", "[^b-a]", "[a--]", "\\", "\\\\\\"} {
		l = append(l, s, "x"+s, "*"+s, "?"+s, "[a]"+s, "\\a"+s, strings.Repeat("a", most-len(s))+s)
		if s[len(s)-1] == ']' {
			l = append(l, s+"x", s+"*", "*x"+s+"x*", s+s)
		}
	}
	return append(l, strings.Repeat("a", most+1), strings.Repeat("*", most+1), strings.Repeat("[a", most))
}

func TestNoPatterns(t *testing.T) {
	for _, s := range noPatterns() {
		isNone(t, s)
	}
}

// TestOfAllOfAName: not of a part of it.
func TestOfAllOfAName(t *testing.T) {
	for _, pattern := range []string{"bc", "b?", "?c", "[b]c", "b[^b]", "\\bc", "b*c", "*bc", "bc*", "**b*c**", "b**c"} {
		is(t, pattern, "bc", true)
		before, behind := strings.HasPrefix(pattern, "*"), strings.HasSuffix(pattern, "*")
		is(t, pattern, "abc", before)
		is(t, pattern, "bca", behind)
		is(t, pattern, "abca", before && behind)
		is(t, pattern, "b", false)
		is(t, pattern, "c", false)
		is(t, pattern, "", false)
		is(t, pattern, "cb", false)
		is(t, pattern, "bc\n", behind)
		is(t, pattern, "\nbc", before)
		is(t, pattern, "bc\x00", behind)
	}
	for n := range 12 {
		for k := range 12 {
			is(t, "abcdefghijkl"[:n], "abcdefghijkl"[:k], n == k)
			is(t, "abcdefghijkl"[:n], "abcdefghijkl"[k:], n == 12-k && k == 0 || n == 0 && k == 12)
		}
	}
}

func TestARunOfNoneSomeAndAll(t *testing.T) {
	for _, s := range []string{"", "a", "ab", "abc", "\x00", "\xff\xfe", "*", "?", "[", "\\", "a/b", "//", ".", "..", ".a", "a\nb", strings.Repeat("a", long)} {
		is(t, "*", s, true)
		is(t, "**", s, true)
		is(t, "***", s, true)
		is(t, strings.Repeat("*", most), s, true)
		is(t, "?*", s, s != "")
		is(t, "*?", s, s != "")
		is(t, "*?*", s, s != "")
		is(t, "**?**", s, s != "")
		is(t, "*?*?*", s, len(s) > 1)
		is(t, "??*", s, len(s) > 1)
		if len(s) < long {
			is(t, "x*", "x"+s, true)
			is(t, "*x", s+"x", true)
			is(t, "y*", "x"+s, false)
			is(t, "*y", s+"x", false)
		}
		if len(s) < long-1 {
			is(t, "x*y", "x"+s+"y", true)
			is(t, "x**y", "x"+s+"y", true)
			is(t, "x*z", "x"+s+"y", false)
			is(t, "*xy*", s+"xy", true)
			is(t, "*xy*", "xy"+s, true)
		}
	}
}

func TestRunsApart(t *testing.T) {
	for _, c := range []struct {
		pattern, yes, no string
	}{
		{"a*c", "ac abc abbc acc acac aacc a*c", "a c ab abd bac acb cba"},
		{"a*b*c", "abc axbyc aabbcc abcbc abcabc acbc", "ac acb bac abcb cab"},
		{"*a*b*", "ab xaxbx aabb bab abab", "ba a b bbaa xbxa"},
		{"*ab*ab*", "abab xabxabx ababab abaab", "ab aba abba aabb"},
		{"*ab", "ab aab abab xxab abaab", "aba abb a b"},
		{"*aab", "aab aaab aaaab abaab aabaab", "ab aaba abab aabb"},
		{"*aba", "aba ababa abababa abaaba", "abab ab ba abb"},
		{"*abab*", "abab ababab aabab abaabab", "aba abba abaab"},
		{"a*a", "aa aaa aba abba abaca", "a ab ba baa aab"},
		{"a*a*a", "aaa aaaa ababa abcabca", "a aa aab baaa"},
		{"*?a", "aa ba aba bbba", "a ab aab"},
		{"*[ab]c*", "ac bc xacx ccbc acc", "c cc xc ca"},
		{"*\\*", "* a* ** a*b*", "a *a a*b"},
		{"\\**", "* *a ** *a*", "a a*"},
		{"*.txt", ".txt a.txt .txt.txt a.b.txt", "txt a.txtx a.tx a.txt.b"},
		{"*a?", "ab aa xab aaa abab", "a ba b"},
		{"a?*b", "axb aab abb axyb", "ab a b axbx"},
		{"a*?b", "axb aab abb axyb", "ab a b axbx"},
		{"?*?", "ab abc aaaa", "a"},
		{"*a*b*c*d*", "abcd aabbccdd xaxbxcxdx dcbaabcd", "abc dcba abdc bcda"},
	} {
		for _, name := range strings.Fields(c.yes) {
			is(t, c.pattern, name, true)
		}
		for _, name := range strings.Fields(c.no) {
			is(t, c.pattern, name, false)
		}
		is(t, c.pattern, "", false)
	}
}

// TestARunLeavesWhatIsBehindIt: whatever it stands ahead of, and wherever that stands in the name.
func TestARunLeavesWhatIsBehindIt(t *testing.T) {
	for n := range 30 {
		for k := range 30 {
			name := strings.Repeat("a", n) + "ba" + strings.Repeat("b", k)
			is(t, "*ba*", name, true)
			is(t, "*bab*", name, k > 0)
			is(t, "*aba*", name, n > 0)
			is(t, "*ba", name, k == 0)
			is(t, "ba*", name, n == 0)
			is(t, "*a*b*a*", name, n > 0)
			is(t, "*b*a*b*", name, k > 0)
			is(t, "*b*b", name, k > 0)
			is(t, "a*b*b", name, n > 0 && k > 0)
			is(t, "*?b?*", name, n > 0 || k > 1)
			is(t, "*[b]?[b]*", name, k > 0)
		}
	}
}

// TestManyRunsEnd: against long names that almost fit; a search that tried all ways would not end.
func TestManyRunsEnd(t *testing.T) {
	as := strings.Repeat("a", long)
	for n := 1; n <= most/2; n++ {
		many := strings.Repeat("*a", n)[:min(2*n, most-2)]
		isMatch(t, many, as, true, ok)
		isMatch(t, many+"*", as, true, ok)
		isMatch(t, many+"*b", as, false, ok)
		isMatch(t, many+"b", as, false, ok)
		isMatch(t, many+"b", as[1:]+"b", true, ok)
		isMatch(t, many, as[1:]+"b", false, ok)
		isMatch(t, many+"*b", as[1:]+"b", true, ok)
		isMatch(t, "b"+many, as, false, ok)
		isMatch(t, "b"+many, "b"+as[1:], true, ok)
		isMatch(t, strings.Repeat("*?", n), as, true, ok)
		isMatch(t, strings.Repeat("*?", n)[:min(2*n, most-1)]+"b", as, false, ok)
		isMatch(t, strings.Repeat("?*", n)[:min(2*n, most-1)]+"b", as, false, ok)
		isMatch(t, strings.Repeat("a*", n)[:min(2*n, most-1)]+"b", as, false, ok)
		isMatch(t, strings.Repeat("*[ab]", n)[:min(5*n, most-5)]+"c", as, false, ok)
		isMatch(t, strings.Repeat("*", 2*n-1)+"b", as, false, ok)
		isMatch(t, strings.Repeat("*", 2*n-1)+"b", as[1:]+"b", true, ok)
	}
	abs := strings.Repeat("ab", long/2)
	for _, pattern := range []string{"*ab*ab*ab*ab*ab*ab*ab*ab*ab*ab*ab*ab*aa", "*a*b*a*b*a*b*a*b*a*b*a*b*a*b*a*b*a*b*bb", "*?a*?a*?a*?a*?a*?a*?a*?a*?a*?a*?a*?aa", "*aba*aba*aba*aba*aba*aba*aba*aba*abaa"} {
		isMatch(t, pattern, abs, false, ok)
		isMatch(t, pattern+"*", abs, false, ok)
		isMatch(t, pattern, abs[:long-2]+pattern[len(pattern)-2:], true, ok)
	}
	isMatch(t, "*"+strings.Repeat("a", most-2)+"b", as, false, ok)
	isMatch(t, "*"+strings.Repeat("a", most-2)+"b", as[1:]+"b", true, ok)
	isMatch(t, "*"+strings.Repeat("a", most-2)+"b", strings.Repeat("a", most-3)+"b", false, ok)
	isMatch(t, "*"+strings.Repeat("a", most-2)+"b", strings.Repeat(strings.Repeat("a", most-3)+"b", 5), false, ok)
}
