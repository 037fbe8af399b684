package delta_test

import (
	"bytes"
	"math"
	"slices"
	"strings"
	"testing"

	"packthread/api"
	"packthread/delta"
)

// P18.2: Patch.

// isPatch: these bytes come of it, or this error, and nothing beside it.
func isPatch(t *testing.T, old string, l []api.Piece, want string, code api.Errno) {
	t.Helper()
	if b, e := delta.Patch([]byte(old), l); string(b) != want || e != code {
		t.Fatalf("Patch(%s, %s): %s %d, want %s %d", short(old), shorts(l), short(string(b)), e, short(want), code)
	}
}

// isMade: this comes of one piece, wherever it stands: what may be stands ahead of it, and behind it too.
func isMade(t *testing.T, old string, p api.Piece, want string, code api.Errno) {
	t.Helper()
	isPatch(t, old, []api.Piece{p}, want, code)
	for _, n := range []int{1, 2, 5, 60} {
		for at := range n + 1 {
			l := slices.Repeat([]api.Piece{told("xy"), {Copy: true, Len: min(len(old), 3)}, {}}, n)[:n]
			before, _ := delta.Patch([]byte(old), l[:at])
			behind, _ := delta.Patch([]byte(old), l[at:])
			all := string(before) + want + string(behind)
			if code != ok {
				all = ""
			}
			isPatch(t, old, slices.Insert(slices.Clone(l), at, p), all, code)
		}
	}
}

// far: numbers that are beyond all bounds.
func far() []int {
	l := []int{math.MinInt, math.MinInt + 1, math.MaxInt, math.MaxInt - 1, math.MaxInt - most, math.MinInt + most, -most, -1 << 63, -2, -1}
	for _, bits := range []int{16, 31, 32, 33, 48, 62} {
		l = append(l, 1<<bits, 1<<bits+1, 1<<bits+8, -1<<bits, -1<<bits+1)
	}
	return l
}

func TestPatchOfNothing(t *testing.T) {
	isPatch(t, "", nil, "", ok)
	isPatch(t, "", []api.Piece{}, "", ok)
	isPatch(t, "abc", nil, "", ok)
	isPatch(t, from(most), nil, "", ok)
	isPatch(t, from(most), append(make([]api.Piece, 0, 5000), copied(0, 1))[:0], "", ok)
	if b, code := delta.Patch(nil, nil); len(b) != 0 || code != ok {
		t.Fatalf("nothing of nothing: %v %d", b, code)
	}
}

func TestPatch(t *testing.T) {
	old := "0123456789"
	for n := range len(old) + 1 {
		for at := range len(old) - n + 1 {
			isMade(t, old, copied(at, n), old[at:at+n], ok)
		}
		isMade(t, old, told(old[:n]), old[:n], ok)
		isMade(t, "", told(old[:n]), old[:n], ok)
	}
	isPatch(t, old, []api.Piece{copied(8, 2), told("x"), copied(0, 1), copied(0, 1), told("yz"), told("u"), copied(3, 4)}, "89x00yzu3456", ok)
	isPatch(t, old, []api.Piece{copied(0, 10), copied(0, 10), copied(0, 10)}, old+old+old, ok)
	isPatch(t, "\x00\xff", []api.Piece{copied(1, 1), told("\xfe\x00"), copied(0, 2)}, "\xff\xfe\x00\x00\xff", ok)
	isPatch(t, old, []api.Piece{told("ab"), copied(0, 2)}, "ab01", ok) // a copy is of the old file, not of what is made
	isPatch(t, "", []api.Piece{told("ab"), copied(0, 1)}, "", errRange)
}

// TestPiecesOfNoBytes: they may be, and nothing comes of them.
func TestPiecesOfNoBytes(t *testing.T) {
	for _, old := range []string{"", "a", "0123456789", from(most)} {
		isMade(t, old, api.Piece{}, "", ok)
		isMade(t, old, api.Piece{Data: []byte{}}, "", ok)
		isMade(t, old, api.Piece{Data: []byte("spare")[:0]}, "", ok)
		for _, at := range []int{0, 1, len(old) - 1, len(old)} {
			if 0 <= at && at <= len(old) {
				isMade(t, old, copied(at, 0), "", ok)
				isMade(t, old, api.Piece{Copy: true, From: at, Data: []byte{}}, "", ok)
				isMade(t, old, api.Piece{Copy: true, From: at, Data: []byte("spare")[:0]}, "", ok)
			}
		}
		isMade(t, old, copied(len(old)+1, 0), "", errRange)
		isMade(t, old, copied(len(old)+2, 0), "", errRange)
	}
}

func TestHowManyPieces(t *testing.T) {
	for _, n := range []int{1, 2, 1000, most - 1, most} {
		isPatch(t, "ab", many(told("x"), n), strings.Repeat("x", n), ok)
		isPatch(t, "ab", many(copied(1, 1), n), strings.Repeat("b", n), ok)
		isPatch(t, "ab", many(api.Piece{}, n), "", ok)
		isPatch(t, "ab", many(copied(2, 0), n), "", ok)
		isPatch(t, "ab", many(copied(0, 2), n)[:n/2], strings.Repeat("ab", n/2), ok)
		isPatch(t, "ab", append(many(api.Piece{}, n-1), told("x")), "x", ok)
		isPatch(t, "ab", append(many(api.Piece{}, n-1), told(from(most))), from(most), ok)
	}
	for _, n := range []int{1, 2, 1000, 1 << 16, 1<<16 + 3, 1 << 18} {
		for _, p := range []api.Piece{{}, told("x"), copied(0, 1), copied(0, 9), {Copy: true, Data: []byte("x")}, {From: 1}, told(from(most + 1))} {
			isPatch(t, "ab", many(p, most+n), "", errSize)
		}
	}
	isPatch(t, "ab", append(make([]api.Piece, 0, 9000), told("x")), "x", ok) // spare room does not count
}

func TestHowManyBytesOfTheOldFile(t *testing.T) {
	isPatch(t, from(most), []api.Piece{copied(0, most)}, from(most), ok)
	isPatch(t, from(most), []api.Piece{copied(most-1, 1), copied(0, 1)}, from(most)[most-1:]+from(1), ok)
	for _, n := range []int{1, 2, 1000, 1 << 16, 1<<16 + 3, 1 << 20} {
		old := strings.Repeat("a", most+n)
		isPatch(t, old, nil, "", errSize)
		for _, p := range []api.Piece{{}, told("x"), copied(0, 1), copied(0, most+n), copied(0, most+n+1), copied(-1, 0), {Copy: true, Data: []byte("x")}, {From: 1}, told(from(most + 1))} {
			isPatch(t, old, []api.Piece{p}, "", errSize)
			isPatch(t, old, many(p, most+n), "", errSize)
		}
	}
	roomy := append([]byte("abc"), make([]byte, 5000)...)[:3]
	if b, code := delta.Patch(roomy, []api.Piece{copied(0, 3)}); string(b) != "abc" || code != ok {
		t.Fatalf("with spare room: %q %d", b, code)
	}
	if b, code := delta.Patch(roomy, []api.Piece{copied(0, 4)}); len(b) != 0 || code != errRange {
		t.Fatalf("spare room is none of its bytes: %q %d", b, code)
	}
}

func TestForm(t *testing.T) {
	for _, old := range []string{"", "0123456789"} {
		for _, data := range []string{"x", "\x00", "xyz", from(most), from(most + 1)} {
			isMade(t, old, api.Piece{Copy: true, Data: []byte(data)}, "", errForm)
			isMade(t, old, api.Piece{Copy: true, From: 1, Len: 2, Data: []byte(data)}, "", errForm)
			isMade(t, old, api.Piece{Copy: true, Len: len(data), Data: []byte(data)}, "", errForm)
		}
		for _, data := range []string{"", "x", "xyz"} {
			for _, n := range append(far(), 1, 2, 10, 11, len(data)) {
				if n != 0 {
					isMade(t, old, api.Piece{From: n, Data: []byte(data)}, "", errForm)
					isMade(t, old, api.Piece{Len: n, Data: []byte(data)}, "", errForm)
					isMade(t, old, api.Piece{From: n, Len: n, Data: []byte(data)}, "", errForm)
					isMade(t, old, api.Piece{From: n, Len: -n, Data: []byte(data)}, "", errForm)
				}
			}
		}
	}
}

func TestRange(t *testing.T) {
	for _, old := range []string{"", "a", "0123456789", from(most)} {
		n := len(old)
		for _, p := range []api.Piece{copied(-1, 0), copied(-1, 1), copied(-1, 2), copied(0, -1), copied(1, -1), copied(n, -1), copied(n+1, -1), copied(-1, -1), copied(0, n+1), copied(1, n), copied(n-1, 2), copied(n, 1), copied(n+1, 0), copied(n+1, 1), copied(n+2, 0), copied(2*n+2, 1), copied(n/2, n-n/2+1), copied(-n-1, n), copied(-1, n)} {
			isMade(t, old, p, "", errRange)
		}
		isPatch(t, old, []api.Piece{copied(0, n)}, old, ok)
		for _, x := range far() {
			for _, p := range []api.Piece{copied(x, 0), copied(x, 1), copied(0, x), copied(n, x), copied(1, x), copied(x, n), copied(x, -1), copied(-1, x), copied(x, -x), copied(-x, x)} {
				isPatch(t, old, []api.Piece{p}, "", errRange)
				isPatch(t, old, []api.Piece{told("ab"), p}, "", errRange)
				isPatch(t, old, []api.Piece{p, told("ab")}, "", errRange)
			}
			for _, y := range far() { // their sums leave the numbers of 64 bits, too
				isPatch(t, old, []api.Piece{copied(x, y)}, "", errRange)
				isPatch(t, old, []api.Piece{{}, copied(x, y)}, "", errRange)
			}
		}
	}
}

func TestOver(t *testing.T) {
	old := from(most)
	isPatch(t, old, []api.Piece{copied(0, most), {}, copied(0, 0), copied(most, 0), {}}, old, ok)
	isPatch(t, old, []api.Piece{copied(0, most), told("x")}, "", errOver)
	isPatch(t, old, []api.Piece{copied(0, most), copied(5, 1)}, "", errOver)
	isPatch(t, old, []api.Piece{copied(0, most), copied(0, most)}, "", errOver)
	isPatch(t, old, []api.Piece{told("x"), copied(0, most)}, "", errOver)
	isPatch(t, old, []api.Piece{told(from(most))}, from(most), ok)
	for _, n := range []int{most + 1, most + 2, 2 * most, 1 << 16, 1<<16 + 1, 1 << 20} {
		isPatch(t, old, []api.Piece{told(strings.Repeat("x", n))}, "", errOver)
		isPatch(t, "", []api.Piece{told(strings.Repeat("x", n))}, "", errOver)
		isPatch(t, "", []api.Piece{told("a"), {}, told(strings.Repeat("x", n))}, "", errOver)
	}
	for k := range most + 1 {
		if k%97 > 2 && k < most-3 {
			continue
		}
		rest := most - k
		isPatch(t, old, []api.Piece{told(old[:k]), copied(k, rest)}, old, ok)
		isPatch(t, old, []api.Piece{copied(0, k), told(old[k:])}, old, ok)
		isPatch(t, old, []api.Piece{copied(0, k), copied(k, rest)}, old, ok)
		isPatch(t, old, []api.Piece{told(old[:k]), told(old[k:])}, old, ok)
		if k > 0 {
			isPatch(t, old, []api.Piece{told(old[:k]), copied(0, rest+1)}, "", errOver)
			isPatch(t, old, []api.Piece{copied(0, k), copied(0, rest+1)}, "", errOver)
		}
		isPatch(t, old, []api.Piece{copied(0, k), told(from(rest + 1))}, "", errOver)
		isPatch(t, old, []api.Piece{told(old[:k]), told(from(rest + 1))}, "", errOver)
		isPatch(t, old, []api.Piece{copied(0, k), {}, told(old[k:]), {}, told("x")}, "", errOver)
		isPatch(t, old, []api.Piece{copied(0, k), {}, told(old[k:]), {}, copied(0, 1)}, "", errOver)
	}
	isPatch(t, "ab", append(many(copied(0, 2), most/2-1), copied(0, 1), told("x")), strings.Repeat("ab", most/2-1)+"ax", ok)
	isPatch(t, "ab", append(many(copied(0, 2), most/2), copied(0, 1)), "", errOver)
	isPatch(t, "ab", many(copied(0, 2), most), "", errOver)
	isPatch(t, "ab", many(told("abc"), most), "", errOver)
}

// TestErrorsOfOnePiece: the one that is named first.
func TestErrorsOfOnePiece(t *testing.T) {
	old := from(most)
	long := []byte(from(most + 1))
	for _, ahead := range [][]api.Piece{nil, {told("x")}, {copied(0, most)}, {copied(0, most), {}}, {told(old[:1000]), copied(0, 1048)}} {
		for _, p := range []api.Piece{
			{Copy: true, Data: long}, {Copy: true, From: -1, Data: []byte("x")}, {Copy: true, Len: -1, Data: []byte("x")}, {Copy: true, Len: most + 1, Data: []byte("x")}, {Copy: true, From: most, Len: 1, Data: long}, {Copy: true, Len: most, Data: []byte("x")}, {Copy: true, Len: 1, Data: []byte("x")},
			{From: -1}, {Len: -1}, {From: 1, Data: long}, {Len: 1, Data: long}, {Len: most + 1}, {From: most + 1, Data: long}, {From: -1, Len: -1, Data: long}, {Len: 1}, {Len: most}, {From: math.MinInt, Len: math.MaxInt, Data: long},
		} {
			isPatch(t, old, append(slices.Clone(ahead), p), "", errForm)
		}
		for _, p := range []api.Piece{copied(0, most+1), copied(1, most), copied(-1, most), copied(-1, most+1), copied(most, 1), copied(most, most), copied(0, math.MaxInt), copied(math.MaxInt, math.MaxInt), copied(-1, math.MaxInt)} {
			isPatch(t, old, append(slices.Clone(ahead), p), "", errRange)
		}
	}
}

// TestErrorsOfTwoPieces: the one of the first piece, and nothing of what came ahead of it.
func TestErrorsOfTwoPieces(t *testing.T) {
	old := from(most)
	odd := map[api.Errno][]api.Piece{
		errForm:  {{Copy: true, Data: []byte("x")}, {From: 1, Data: []byte("x")}, {Len: -1}},
		errRange: {copied(-1, 1), copied(0, most+1), copied(most, 1), copied(0, -1), copied(math.MaxInt, math.MaxInt)},
		errOver:  {told(from(most + 1)), told(from(1 << 16))},
	}
	for first, a := range odd {
		for _, b := range odd {
			for _, p := range a {
				for _, q := range b {
					isPatch(t, old, []api.Piece{p, q}, "", first)
					isPatch(t, old, []api.Piece{p, told("x"), q}, "", first)
					isPatch(t, old, []api.Piece{told("x"), p, copied(0, 1), q}, "", first)
					isPatch(t, old, append([]api.Piece{told("x"), p}, many(q, most-2)...), "", first)
					isPatch(t, old, append([]api.Piece{told("x"), p}, many(q, most-1)...), "", errSize)
				}
			}
		}
	}
	for _, last := range []api.Piece{{From: 1}, copied(-1, 1), copied(0, 1)} { // the sum goes beyond the bound ahead of them
		isPatch(t, old, []api.Piece{copied(0, most), copied(0, 1), last}, "", errOver)
		isPatch(t, old, []api.Piece{copied(0, most), told("x"), last}, "", errOver)
	}
}

// TestNothingBesideAnError: at each place of a list.
func TestNothingBesideAnError(t *testing.T) {
	for _, n := range []int{1, 2, 3, 64, most} {
		for _, at := range []int{0, 1, n / 2, n - 2, n - 1} {
			if at < 0 || at >= n {
				continue
			}
			for _, c := range []struct {
				p    api.Piece
				code api.Errno
			}{{api.Piece{Copy: true, Data: []byte("x")}, errForm}, {api.Piece{Len: 1}, errForm}, {copied(1, 2), errRange}, {copied(0, -1), errRange}, {told(from(most + 1)), errOver}, {told(from(most)), errOver}} {
				l := many(told("x"), n)
				l[at] = c.p
				if n == 1 && len(c.p.Data) == most {
					isPatch(t, "ab", l, from(most), ok)
					continue
				}
				if b, code := delta.Patch([]byte("ab"), l); len(b) != 0 || code != c.code {
					t.Fatalf("%s at %d of %d: %d bytes, %d", shorts([]api.Piece{c.p}), at, n, len(b), code)
				}
			}
		}
	}
}

// TestPatchedByItsDelta: what comes of it.
func TestPatchedByItsDelta(t *testing.T) {
	files := []string{"", "a", from(7), from(8), from(9), from(most), from(most)[1:], from(most)[:most-1], strings.Repeat("a", most), strings.Repeat("ab", most/2), "x" + from(1000) + "y" + from(1000), from(1000)[500:] + from(500)}
	for _, old := range files {
		for _, now := range files {
			l, code := delta.Delta([]byte(old), []byte(now))
			if code != ok {
				t.Fatalf("Delta(%s, %s): %d", short(old), short(now), code)
			}
			isFormed(t, old, now, l)
			if b, _ := delta.Patch([]byte(old), l); !bytes.Equal(b, []byte(now)) {
				t.Fatalf("Patch(%s): %s, want %s", short(old), short(string(b)), short(now))
			}
		}
	}
}
