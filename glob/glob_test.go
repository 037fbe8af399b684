package glob_test

import (
	"fmt"
	"slices"
	"strings"
	"testing"

	"packthread/api"
	"packthread/glob"
)

// The limits and the numbers of errors, written out: they must not move with the program.
const (
	most  = 40  // bytes of a pattern
	long  = 200 // bytes of a name
	lists = 64  // names at once

	ok      = api.Errno(0)
	errSize = api.Errno(1)
	errForm = api.Errno(4)
)

// short: a text, quoted; of a long one its beginning and its length.
func short(s string) string {
	if len(s) > 240 {
		return fmt.Sprintf("%q..%d", s[:40], len(s))
	}
	return fmt.Sprintf("%q", s)
}

// shorts: texts, quoted; of many the first ones and how many there are.
func shorts(l []string) string {
	var s []string
	for _, x := range l[:min(len(l), 20)] {
		s = append(s, short(x))
	}
	return fmt.Sprint(len(l), ": ", strings.Join(s, " "))
}

func isMay(t *testing.T, pattern string, want bool) {
	t.Helper()
	if got := glob.May(pattern); got != want {
		t.Fatalf("May(%s): %v", short(pattern), got)
	}
}

func isMatch(t *testing.T, pattern, name string, want bool, code api.Errno) {
	t.Helper()
	if got, e := glob.Match(pattern, name); got != want || e != code {
		t.Fatalf("Match(%s, %s): %v %d, want %v %d", short(pattern), short(name), got, e, want, code)
	}
}

func isPick(t *testing.T, pattern string, names, want []string, code api.Errno) {
	t.Helper()
	if got, e := glob.Pick(pattern, names); !slices.Equal(got, want) || e != code {
		t.Fatalf("Pick(%s, %s): %s %d, want %s %d", short(pattern), shorts(names), shorts(got), e, shorts(want), code)
	}
}

// is: the pattern is of this name, or it is not, whoever is asked.
func is(t *testing.T, pattern, name string, want bool) {
	t.Helper()
	isMay(t, pattern, true)
	isMatch(t, pattern, name, want, ok)
	if want {
		isPick(t, pattern, []string{name}, []string{name}, ok)
	} else {
		isPick(t, pattern, []string{name}, nil, ok)
	}
}

// isNone: these bytes are no pattern, whoever is asked, and whatever the names are.
func isNone(t *testing.T, pattern string) {
	t.Helper()
	isMay(t, pattern, false)
	for _, name := range []string{"", "a", pattern, strings.Repeat("a", long), strings.Repeat("a", long+1), strings.Repeat("a", 1<<16)} {
		isMatch(t, pattern, name, false, errForm)
		isPick(t, pattern, []string{name}, nil, errForm)
		isPick(t, pattern, []string{"a", name, "b"}, nil, errForm)
	}
	isPick(t, pattern, nil, nil, errForm)
	isPick(t, pattern, slices.Repeat([]string{"a"}, lists), nil, errForm)
	isPick(t, pattern, slices.Repeat([]string{"a"}, lists+1), nil, errForm)
}

// text: the text of one byte.
func text(b int) string { return string([]byte{byte(b)}) }

// from: the bytes from one to another one, both within.
func from(a, b int) string {
	var s []byte
	for v := a; v <= b; v++ {
		s = append(s, byte(v))
	}
	return string(s)
}

// others: all bytes but these.
func others(s string) string {
	var l []byte
	for v := range 256 {
		if strings.IndexByte(s, byte(v)) < 0 {
			l = append(l, byte(v))
		}
	}
	return string(l)
}

// isOf: of all bytes the part is of these, alone, at the beginning, in the middle and at the end, and of one byte always.
func isOf(t *testing.T, part, bytes string) {
	t.Helper()
	isMay(t, part, true)
	isMatch(t, part, "", false, ok)
	for v := range 256 {
		isMatch(t, part, text(v), strings.IndexByte(bytes, byte(v)) >= 0, ok)
	}
	isPickOf(t, part, "%%", "")
	if len(part) > most/2 { // no room for more beside it
		return
	}
	for _, around := range []string{"%xy", "xy%", "x%y", "%?", "?%", "%*", "*%"} {
		isPickOf(t, strings.ReplaceAll(around, "%", part), strings.NewReplacer("?", "x", "*", "xy").Replace(around), bytes)
	}
	isPickOf(t, part+part, "%%", bytes)
	isPickOf(t, part+part, "%", "")
	isPickOf(t, "x"+part, "%", "")
	isPickOf(t, part+"x", "%%x", "")
}

// isPickOf: the pattern is of the names that come of this one with these bytes in it, and of none that come of it with others.
func isPickOf(t *testing.T, pattern, name, bytes string) {
	t.Helper()
	for v := 0; v < 256; v += lists {
		var names, want []string
		for _, b := range []byte(from(v, v+lists-1)) {
			x := strings.ReplaceAll(name, "%", text(int(b)))
			names = append(names, x)
			if strings.IndexByte(bytes, b) >= 0 {
				want = append(want, x)
			}
		}
		isPick(t, pattern, names, want, ok)
	}
}

// isSet: what stands in a set, and behind ^, where it is of all others.
func isSet(t *testing.T, list, bytes string) {
	t.Helper()
	isOf(t, "["+list+"]", bytes)
	isOf(t, "[^"+list+"]", others(bytes))
}

// P17.1: how long a pattern may be.

func TestMayOfNoBytes(t *testing.T) {
	is(t, "", "", true)
	is(t, "", "a", false)
	is(t, "", "\x00", false)
	is(t, "", strings.Repeat("a", long), false)
}

func TestMayOfEachLength(t *testing.T) {
	for n := range 3 * most {
		isMay(t, strings.Repeat("a", n), n <= most)
		isMay(t, strings.Repeat("*", n), n <= most)
		isMay(t, strings.Repeat("?", n), n <= most)
		isMay(t, strings.Repeat("\xff", n), n <= most)
		isMay(t, strings.Repeat("]", n), n <= most)
		if n > 1 {
			isMay(t, "["+strings.Repeat("a", n-2)+"]", 2 < n && n <= most)
			isMay(t, "["+strings.Repeat("-", n-2)+"]", 2 < n && n <= most)
			isMay(t, "["+strings.Repeat("^", n-2)+"]", 3 < n && n <= most)
			isMay(t, strings.Repeat("a", n-2)+"\\a", n <= most)
		}
		isMay(t, strings.Repeat("\\", n), n%2 == 0 && n <= most)
	}
	is(t, strings.Repeat("ab", most/2), strings.Repeat("ab", most/2), true)
	is(t, strings.Repeat("\\?", most/2), strings.Repeat("?", most/2), true)
	is(t, strings.Repeat("[ab]", most/4), strings.Repeat("ab", most/8), true)
	isNone(t, strings.Repeat("ab", most/2)+"a")
	isNone(t, strings.Repeat("\\?", most/2)+"*")
	isNone(t, strings.Repeat("[ab]", most/4)+"*")
}

func TestPatternsThatAreTooLong(t *testing.T) {
	for _, n := range []int{most + 1, most + 2, 2 * most, 255, 256, 256 + 7, 65536, 65536 + 1, 65536 + most, 1 << 20} {
		for _, part := range []string{"a", "?", "*", "[a]", "\\a", "ä", "\x00", "[", "\\", "]"} {
			isNone(t, strings.Repeat(part, n/len(part)+1)[:n])
		}
		isNone(t, "["+strings.Repeat("a", n-2)+"]")
		isNone(t, "["+strings.Repeat("a-c", n/3+1)+"]")
	}
}

// P17.1: any other byte is itself.

// special: the bytes that are not themselves.
const special = "?*[\\"

func TestEachByteAsItself(t *testing.T) {
	for v := range 256 {
		if b := text(v); !strings.Contains(special, b) {
			isOf(t, b, b)
		}
	}
	for _, b := range []string{"]", "^", "-", "!", ".", "/", "\x00", "\xff", "\n", "(", "{", "+", "|", "$"} {
		is(t, b, b, true)
		is(t, b+b+b, b+b+b, true)
		is(t, b+"a", b+"a", true)
		is(t, "a"+b, "a"+b, true)
		is(t, "a"+b+"c", "a"+b+"c", true)
		is(t, "a"+b+"c", "abc", false)
		is(t, b, "a", false)
	}
	for _, s := range []string{"a-c", "^a", "a^", "]a", "a]", "^-]", "-]^", "]]", "^^", "--", "a-c]", "^a-c]", "a-b-c", "z-a"} {
		is(t, s, s, true)
		is(t, s, "b", false)
	}
}

func TestBytesNotCharacters(t *testing.T) {
	is(t, "ä", "ä", true)
	is(t, "ä", "\xc3", false)
	is(t, "\xc3\xa4", "ä", true)
	is(t, "?", "ä", false)
	is(t, "??", "ä", true)
	is(t, "\xc3?", "ä", true)
	is(t, "?\xa4", "ä", true)
	is(t, "*\xa4", "ä", true)
	is(t, "\\ä", "ä", true)
	is(t, "\\\xc3\\\xa4", "ä", true)
	is(t, "[ä]", "ä", false)
	is(t, "[ä][ä]", "ä", true)
	is(t, "[ä][ä]", "\xa4\xc3", true)
	is(t, "[^ä]", "\xc3", false)
	is(t, "ä", "Ä", false)
	is(t, "a", "A", false)
	is(t, "\xff\xfe", "\xff\xfe", true)
	is(t, "\xff", "\xfe", false)
	is(t, "\xff", "\ufffd", false)
	is(t, "\U0001f9f5", "\U0001f9f5", true)
	is(t, "????", "\U0001f9f5", true)
	is(t, "\u00e4", "a\u0308", false)
	isSet(t, "ä", "\xc3\xa4")
	isSet(t, "ä-ö", "\xc3\xb6"+from(0xa4, 0xc3))
}

// P17.1: ?.

func TestAnyOneByte(t *testing.T) {
	isOf(t, "?", from(0, 255))
	for n := range 8 {
		for k := range 8 {
			is(t, strings.Repeat("?", n), strings.Repeat("a", k), n == k)
			is(t, "a"+strings.Repeat("?", n)+"b", "a"+strings.Repeat("?", k)+"b", n == k)
		}
	}
	is(t, "?b?", "abc", true)
	is(t, "?b?", "acc", false)
	is(t, "?b?", "ab", false)
	is(t, "?b?", "bc", false)
	is(t, strings.Repeat("?", most), strings.Repeat("/", most), true)
	is(t, strings.Repeat("?", most), strings.Repeat("/", most+1), false)
}

// P17.1: \.

func TestEachByteBehindABackslash(t *testing.T) {
	for v := range 256 {
		b := text(v)
		isOf(t, "\\"+b, b)
		is(t, "a\\"+b+"c", "a"+b+"c", true)
		is(t, "a\\"+b+"c", "a\\"+b+"c", false)
	}
	is(t, "\\n", "n", true)
	is(t, "\\n", "\n", false)
	is(t, "\\[a]", "[a]", true)
	is(t, "\\[a]", "a", false)
	is(t, "\\[", "[", true)
	is(t, "\\[\\]", "[]", true)
	is(t, "\\*\\?", "*?", true)
	is(t, "\\*", "ab", false)
	is(t, "\\\\", "\\", true)
	is(t, "\\\\", "\\\\", false)
	is(t, "\\\\*", "\\abc", true)
	is(t, "\\\\\\*", "\\*", true)
	is(t, "\\\\\\*", "\\abc", false)
	is(t, "\\\\?", "\\a", true)
	is(t, "\\\\[a]", "\\a", true)
}

func TestABackslashWithNothingBehind(t *testing.T) {
	for _, ahead := range []string{"", "a", "ab", "?", "*", "[a]", "[^a-c]", "\\a", "\\\\", "\\\\\\\\", "]", "^", "-", "\xff", strings.Repeat("a", most-1)} {
		isNone(t, ahead+"\\")
	}
}

// P17.1: each kind of part, everywhere.

func TestPartsInEachPlace(t *testing.T) {
	type kind struct{ part, of, not string }
	kinds := []kind{{"?", "a", ""}, {"?", "\xff", "ab"}, {"*", "", ""}, {"*", "abc", ""}, {"[a-c]", "b", "d"}, {"[^a-c]", "d", "b"}, {"\\*", "*", "a"}, {"\\a", "a", "\\a"}, {"a", "a", "b"}, {"]", "]", "a"}, {"^", "^", "-"}, {"-", "-", "^"}}
	for _, a := range kinds {
		is(t, a.part, a.of, true)
		for _, b := range kinds {
			is(t, a.part+b.part, a.of+b.of, true)
			is(t, a.part+"xyz"+b.part, a.of+"xyz"+b.of, true)
			if a.part != "*" && b.part != "*" {
				is(t, a.part+b.part, a.not+b.of, false)
				is(t, a.part+b.part, a.of+b.not, false)
				is(t, a.part+b.part, a.of, false)
				is(t, a.part+b.part, a.of+b.of+"a", false)
			}
			for _, c := range kinds {
				is(t, a.part+b.part+c.part, a.of+b.of+c.of, true)
				is(t, a.part+"x"+b.part+"y"+c.part, a.of+"x"+b.of+"y"+c.of, true)
				is(t, a.part+"x"+b.part+"y"+c.part, a.of+"y"+b.of+"x"+c.of, false)
			}
		}
	}
}
