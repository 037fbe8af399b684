package glob_test

import (
	"slices"
	"strings"
	"testing"

	"packthread/glob"
)

// A plain search that tries all ways, beside which the package is laid.

// pieces: a pattern, piece by piece, if it is one.
func pieces(pattern string) ([]string, bool) {
	var out []string
	for left := pattern; left != ""; {
		n := 1
		switch left[0] {
		case '\\':
			n = 2
		case '[':
			n = strings.Index(left, "]") + 1
		}
		if n < 1 || n > len(left) || left[0] == '[' && !isGoodSet(left[:n]) {
			return nil, false
		}
		out, left = append(out, left[:n]), left[n:]
	}
	return out, len(pattern) <= most
}

// listOf: what stands in a set, without its ^.
func listOf(set string) string {
	return strings.TrimPrefix(set[1:len(set)-1], "^")
}

func isGoodSet(set string) bool {
	list := listOf(set)
	if list == "" || strings.Contains(list, "\\") {
		return false
	}
	for at, d := range dashes(list) {
		if d == '1' && list[at-1] > list[at+1] {
			return false
		}
	}
	return true
}

// dashes: for each place of a list whether a - stands between two there, as 0 and 1: of all ways to read the list the greatest one, as in it the first - that may stands so.
func dashes(list string) string {
	return slices.Max(ways(list))
}

// ways: all ways to read a list.
func ways(list string) []string {
	if list == "" {
		return []string{""}
	}
	var out []string
	for _, x := range ways(list[1:]) {
		out = append(out, "0"+x)
	}
	if len(list) > 2 && list[1] == '-' {
		for _, x := range ways(list[3:]) {
			out = append(out, "010"+x)
		}
	}
	return out
}

// has: whether a piece is of this byte.
func has(piece string, b byte) bool {
	switch {
	case piece == "?":
		return true
	case piece[0] == '\\':
		return piece[1] == b
	case piece[0] != '[':
		return piece[0] == b
	}
	list := listOf(piece)
	in := false
	for at, d := range dashes(list) {
		if d == '1' {
			in = in || list[at-1] <= b && b <= list[at+1]
		} else {
			in = in || list[at] == b
		}
	}
	return in != (piece[1] == '^')
}

// fits: whether pieces are of all of a name.
func fits(l []string, name string) bool {
	switch {
	case len(l) == 0:
		return name == ""
	case l[0] == "*":
		return fits(l[1:], name) || name != "" && fits(l, name[1:])
	}
	return name != "" && has(l[0], name[0]) && fits(l[1:], name[1:])
}

// isModel: May, Match and Pick answer what the plain search does.
func isModel(t *testing.T, pattern string, names []string) {
	t.Helper()
	l, good := pieces(pattern)
	isMay(t, pattern, good)
	if !good {
		isMatch(t, pattern, names[0], false, errForm)
		isPick(t, pattern, names, nil, errForm)
		return
	}
	var want []string
	for _, name := range names {
		if fits(l, name) {
			want = append(want, name)
		}
	}
	isPick(t, pattern, names, want, ok)
	for _, name := range names[:min(len(names), 5)] {
		isMatch(t, pattern, name, slices.Contains(want, name), ok)
	}
}

// all: the texts of these bytes with so many at most.
func all(bytes string, n int) []string {
	out, last := []string{""}, []string{""}
	for range n {
		var next []string
		for _, s := range last {
			for _, b := range []byte(bytes) {
				next = append(next, s+text(int(b)))
			}
		}
		out, last = append(out, next...), next
	}
	return out
}

// inLists: these names, in lists that may be.
func inLists(l []string) [][]string {
	return slices.Collect(slices.Chunk(l, lists))
}

func TestModelAllShortPatterns(t *testing.T) {
	names := append(all("ab-", 2), all("ab", 4)[7:]...)
	names = append(names, strings.Split("]^[\\?*c", "")...)
	for _, pattern := range all("ab?*[]^-\\", 5) {
		isModel(t, pattern, names)
	}
}

func TestModelAllShortPatternsOfRuns(t *testing.T) {
	names := inLists(all("ab", 7))
	for _, pattern := range all("ab?*", 6) {
		for _, l := range names {
			isModel(t, pattern, l)
		}
	}
}

func TestModelAllShortSets(t *testing.T) {
	names := strings.Split(from('+', 'j'), "")
	for _, list := range all("-+/a^c", 6) {
		isModel(t, "["+list+"]", names)
	}
	for _, list := range all("-[]^\\", 6) {
		isModel(t, "["+list+"]", names)
	}
}

// Long ones.

// dice: numbers, one behind the other, below what is asked for.
func dice(seed uint32) func(n int) int {
	return func(n int) int {
		seed = seed*1664525 + 1013904223
		return int(seed>>8) % n
	}
}

// mixed: a long pattern, and a name that it is of.
func mixed(roll func(int) int) (string, string) {
	var pattern, name string
	for {
		b := text(roll(256))
		if roll(3) > 0 {
			b = text('a' + roll(3))
		}
		piece, some := "", b
		switch roll(7) {
		case 0:
			piece = "?"
		case 1, 2:
			piece, some = "*", strings.Repeat(b, roll(9))
		case 3:
			piece = "\\" + b
		case 4:
			piece = "[" + b + "-\xff]"
		case 5:
			piece = "[^" + text(roll(256)) + text(roll(256)) + "]"
			some = "~"
		default:
			piece = b
		}
		if len(pattern)+len(piece) > most || len(name)+len(some) > long {
			return pattern, name
		}
		pattern, name = pattern+piece, name+some
	}
}

// harmed: a name with a byte changed, missing, or twice, or with two pieces of it turned about.
func harmed(name string, roll func(int) int) string {
	if name == "" {
		return "a"
	}
	at := roll(len(name))
	switch roll(4) {
	case 0:
		return name[:at] + text('a'+roll(4)) + name[at+1:]
	case 1:
		return name[:at] + name[at+1:]
	case 2:
		return (name[:at+1] + name[at:])[:min(len(name)+1, long)]
	}
	return name[at:] + name[:at]
}

// fitsStepwise: whether pieces are of all of a name, by all places of the name where one may be behind each of them: for names at which the plain search would not end.
func fitsStepwise(l []string, name string) bool {
	here := make([]bool, len(name)+1)
	here[0] = true
	for _, piece := range l {
		next := make([]bool, len(name)+1)
		for at := range here {
			switch {
			case piece == "*":
				next[at] = here[at] || at > 0 && next[at-1]
			case here[at] && at < len(name) && has(piece, name[at]):
				next[at+1] = true
			}
		}
		here = next
	}
	return here[len(name)]
}

func TestModelLongPatterns(t *testing.T) {
	var fit, unfit, none int
	for seed := range uint32(8000) {
		roll := dice(seed)
		pattern, name := mixed(roll)
		l, good := pieces(pattern)
		isMay(t, pattern, good)
		if !good {
			none++
			isMatch(t, pattern, name, false, errForm)
			continue
		}
		for range 4 {
			want := fitsStepwise(l, name)
			is(t, pattern, name, want)
			if want {
				fit++
			} else {
				unfit++
			}
			name = harmed(name, roll)
		}
	}
	if fit < 5000 || unfit < 5000 || none < 200 {
		t.Fatalf("%d fit, %d do not, %d are none", fit, unfit, none)
	}
}

// TestModelLongNames: runs, and little beside them, against names of two bytes.
func TestModelLongNames(t *testing.T) {
	for seed := range uint32(5000) {
		roll := dice(seed + 77777)
		var pattern, name string
		for range roll(most + 1) {
			pattern += text(int("*ab?*a"[roll(6)]))
		}
		for range roll(long + 1) {
			name += text('a' + roll(2)*roll(2))
		}
		l, _ := pieces(pattern)
		is(t, pattern, name, fitsStepwise(l, name))
	}
}

// TestCallsEnd: at bytes of all kinds none of the calls panics.
func TestCallsEnd(t *testing.T) {
	for seed := range uint32(50000) {
		roll := dice(seed)
		some := func(n int) string {
			var b []byte
			for range roll(n) {
				b = append(b, "*?[]^-\\a\x00\xff"[roll(10)])
			}
			return string(b)
		}
		pattern := some(50)
		_, good := pieces(pattern)
		isMay(t, pattern, good)
		glob.Match(pattern, some(250))
		glob.Pick(pattern, []string{some(250), some(30), some(2)})
	}
}
