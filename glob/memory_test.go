package glob_test

import (
	"fmt"
	"slices"
	"strings"
	"sync"
	"testing"

	"packthread/glob"
)

// What holds everywhere.

// patterns: of all sorts, some of which are none.
func patterns() []string {
	return append(noPatterns(), "", "*", "?", "a", "a*", "*a", "[a-c]*", "[^a-c]*", "\\a*", "?n*", "[", "*[02468]", "x", strings.Repeat("*", most))
}

// someNames: lists of names of all sorts, some of which are refused.
func someNames() [][]string {
	return [][]string{nil, {}, {""}, {"a"}, {"a", "b", "a"}, {"\xff", "", "a\x00"}, numbered(5), numbered(lists), numbered(lists + 1), {"a", strings.Repeat("a", long)}, {"a", strings.Repeat("a", long+1), "b"}, slices.Repeat([]string{"a"}, lists)}
}

// roomy: the same names, with spare room behind them, in which something stands.
func roomy(l []string) []string {
	return append(slices.Clone(l), "a", "spare", strings.Repeat("a", long+1))[:len(l)]
}

// whole: all that stands in a list, in spare room, too.
func whole(l []string) string {
	return fmt.Sprintf("%d %q", len(l), l[:cap(l)])
}

// scrawl: over all that a list has room for.
func scrawl(l []string) {
	for i := range l[:cap(l)] {
		l[:cap(l)][i] = "gone"
	}
}

func TestWhatIsHandedInIsNotChanged(t *testing.T) {
	for _, pattern := range patterns() {
		for _, l := range someNames() {
			l = roomy(l)
			before := whole(l)
			glob.Pick(pattern, l)
			if whole(l) != before {
				t.Fatalf("Pick(%q): %s, was %s", pattern, whole(l), before)
			}
		}
	}
}

// TestWhatIsPickedIsNew: shared with no list that was handed in, and with no other answer.
func TestWhatIsPickedIsNew(t *testing.T) {
	for _, pattern := range patterns() {
		for _, l := range someNames() {
			l = roomy(l)
			before := whole(l)
			first, _ := glob.Pick(pattern, l)
			second, _ := glob.Pick(pattern, l)
			want := slices.Clone(second)
			scrawl(first)
			if whole(l) != before || !slices.Equal(second, want) {
				t.Fatalf("Pick(%q, %s): what is told is shared", pattern, before)
			}
			scrawl(l)
			if !slices.Equal(second, want) {
				t.Fatalf("Pick(%q, %s): what was handed in is kept", pattern, before)
			}
		}
	}
}

// TestSpareRoomIsNew: of what is picked, too.
func TestSpareRoomIsNew(t *testing.T) {
	for _, l := range someNames() {
		for _, pattern := range []string{"*", "a*", "?n*"} {
			first, _ := glob.Pick(pattern, l)
			for _, x := range first[len(first):cap(first)] {
				if x != "" {
					t.Fatalf("Pick(%q, %s): %q in spare room", pattern, shorts(l), x)
				}
			}
			scrawl(first)
			second, _ := glob.Pick(pattern, l)
			for _, x := range second[:cap(second)] {
				if x == "gone" {
					t.Fatalf("Pick(%q, %s): spare room is kept", pattern, shorts(l))
				}
			}
		}
	}
}

// told: all that is told of these patterns and names, as texts.
func told() []string {
	var out []string
	for _, pattern := range patterns() {
		out = append(out, fmt.Sprint(glob.May(pattern)))
		for _, l := range someNames() {
			picked, code := glob.Pick(pattern, l)
			out = append(out, fmt.Sprintf("%q %d", picked, code))
			for _, name := range l {
				out = append(out, fmt.Sprintln(glob.Match(pattern, name)))
			}
		}
	}
	return out
}

func TestAnswersHangOnArgumentsAlone(t *testing.T) {
	first := told()
	var hands sync.WaitGroup
	for range 4 {
		hands.Go(func() {
			if !slices.Equal(told(), first) {
				t.Error("another answer")
			}
		})
	}
	hands.Wait()
	if !slices.Equal(told(), first) {
		t.Error("another answer")
	}
}
