package delta_test

import (
	"bytes"
	"fmt"
	"slices"
	"strings"
	"sync"
	"testing"

	"packthread/api"
	"packthread/delta"
)

// What holds everywhere.

// someFiles: of all sorts, some of which are refused.
func someFiles() [][]byte {
	var l [][]byte
	for _, s := range []string{"", "a", "xyz", "01234567", "0123456789abcdef", "xx456789abcd!0123456", "01234567ab01234567ab-01234567x", strings.Repeat("a", 50), from(300) + "x" + from(300), from(most), from(most) + "x"} {
		l = append(l, roomy([]byte(s)))
	}
	return append(l, nil, []byte{})
}

// somePieces: lists of all sorts, some of which are refused.
func somePieces() [][]api.Piece {
	var out [][]api.Piece
	for _, l := range [][]api.Piece{nil, {}, {{}}, {told("ab")}, {copied(0, 1)}, {told("x"), copied(0, 8), told("y"), told("z")}, {copied(2, 9), copied(2, 9)}, {told("ab"), copied(0, 9), told(from(most))}, {told("ab"), {From: 1}, told("c")}, {told("ab"), {Copy: true, Len: 1, Data: []byte("c")}}, {copied(0, -1)}, {told("ab"), {Data: []byte{}}, told("")}, many(told("x"), most), many(told("x"), most+1), {told(from(most))}} {
		for i := range l {
			l[i].Data = roomy(l[i].Data)
		}
		out = append(out, append(slices.Clone(l), told("spare"), api.Piece{Copy: true, From: 9, Len: 9, Data: []byte("spare")})[:len(l)])
	}
	return out
}

// roomy: the same bytes, with spare room behind them, in which something stands.
func roomy(b []byte) []byte {
	return append(bytes.Clone(b), "spare room 01234567"...)[:len(b)]
}

// whole: all that stands in bytes, in spare room, too.
func whole(b []byte) string {
	return fmt.Sprintf("%d %q", len(b), b[:cap(b)])
}

// wholes: all that stands in pieces, in spare room, too.
func wholes(l []api.Piece) string {
	var s strings.Builder
	fmt.Fprint(&s, len(l))
	for _, p := range l[:cap(l)] {
		fmt.Fprint(&s, " ", p.Copy, p.From, p.Len, whole(p.Data))
	}
	return s.String()
}

// scrawl: over all that bytes have room for.
func scrawl(b []byte) {
	for i := range b[:cap(b)] {
		b[:cap(b)][i] = '#'
	}
}

// scrawls: over all that pieces have room for.
func scrawls(l []api.Piece) {
	for i := range l[:cap(l)] {
		scrawl(l[:cap(l)][i].Data)
		l[:cap(l)][i] = api.Piece{Copy: true, From: -7, Len: -7, Data: []byte("gone")}
	}
}

func TestWhatIsHandedInIsNotChanged(t *testing.T) {
	for _, old := range someFiles() {
		before := whole(old)
		for _, now := range someFiles() {
			was := whole(now)
			delta.Delta(old, now)
			delta.Delta(old, old)
			if whole(old) != before || whole(now) != was {
				t.Fatalf("Delta(%s, %s): changed", before, was)
			}
		}
		for _, l := range somePieces() {
			was := wholes(l)
			delta.Patch(old, l)
			if whole(old) != before || wholes(l) != was {
				t.Fatalf("Patch(%s, %s): changed", before, shorts(l))
			}
		}
	}
}

func TestPiecesAreNew(t *testing.T) {
	for _, old := range someFiles() {
		for _, now := range someFiles() {
			wasOld, wasNow := whole(old), whole(now)
			first, _ := delta.Delta(old, now)
			second, _ := delta.Delta(old, now)
			want := wholes(second)
			scrawls(first)
			if whole(old) != wasOld || whole(now) != wasNow || wholes(second) != want {
				t.Fatalf("Delta(%s, %s): what is told is shared", wasOld, wasNow)
			}
			o, n := bytes.Clone(old), bytes.Clone(now)
			third, _ := delta.Delta(o, n)
			want = wholes(third)
			scrawl(o)
			scrawl(n)
			if wholes(third) != want || !same(second, third) {
				t.Fatalf("Delta(%s, %s): what was handed in is kept", wasOld, wasNow)
			}
		}
	}
}

// TestNoTwoPiecesShare: of one answer, spare room too.
func TestNoTwoPiecesShare(t *testing.T) {
	for _, old := range someFiles() {
		for _, now := range append(someFiles(), []byte("x01234567yz01234567uvw01234567abcdefghi01234567")) {
			l, _ := delta.Delta(old, now)
			for i := range l {
				others := slices.Concat(l[:i], l[i+1:])
				want := wholes(slices.Clip(others))
				b := l[i].Data
				scrawl(b)
				_ = append(b, "####"...)
				if wholes(slices.Clip(others)) != want {
					t.Fatalf("Delta(%s, %s): piece %d shares with others", whole(old), whole(now), i)
				}
			}
		}
	}
}

func TestPatchedBytesAreNew(t *testing.T) {
	for _, old := range someFiles() {
		for _, l := range somePieces() {
			wasOld, was := whole(old), wholes(l)
			first, _ := delta.Patch(old, l)
			second, _ := delta.Patch(old, l)
			want := whole(second)
			scrawl(first)
			if whole(old) != wasOld || wholes(l) != was || whole(second) != want {
				t.Fatalf("Patch(%s, %s): what is made is shared", wasOld, shorts(l))
			}
			o := bytes.Clone(old)
			third, _ := delta.Patch(o, l)
			want = whole(third)
			scrawl(o)
			scrawls(l)
			if whole(third) != want || !bytes.Equal(second, third) {
				t.Fatalf("Patch(%s, %s): what was handed in is kept", wasOld, shorts(l))
			}
		}
	}
}

// TestSpareRoomIsNew: nothing of what was handed in stands in it.
func TestSpareRoomIsNew(t *testing.T) {
	for _, old := range someFiles() {
		for _, now := range someFiles() {
			l, _ := delta.Delta(old, now)
			for _, p := range l {
				isBlank(t, p.Data)
			}
			for _, p := range l[len(l):cap(l)] {
				if p.Copy || p.From != 0 || p.Len != 0 || p.Data != nil {
					t.Fatalf("Delta(%s, %s): %v in spare room", whole(old), whole(now), p)
				}
			}
		}
		for _, l := range somePieces() {
			b, _ := delta.Patch(old, l)
			isBlank(t, b)
		}
	}
}

// isBlank: the spare room behind these bytes.
func isBlank(t *testing.T, b []byte) {
	t.Helper()
	for _, x := range b[len(b):cap(b)] {
		if x != 0 {
			t.Fatalf("in spare room: %s", whole(b))
		}
	}
}

// toldOf: all that is told of these files and pieces, as texts.
func toldOf() []string {
	var out []string
	for _, old := range someFiles() {
		for _, now := range someFiles() {
			l, code := delta.Delta(old, now)
			out = append(out, fmt.Sprint(l, code))
		}
		for _, l := range somePieces() {
			b, code := delta.Patch(old, l)
			out = append(out, fmt.Sprint(b, code))
		}
	}
	return out
}

func TestAnswersHangOnArgumentsAlone(t *testing.T) {
	first := toldOf()
	var hands sync.WaitGroup
	for range 4 {
		hands.Go(func() {
			if !slices.Equal(toldOf(), first) {
				t.Error("another answer")
			}
		})
	}
	hands.Wait()
	if !slices.Equal(toldOf(), first) {
		t.Error("another answer")
	}
}
