package delta_test

import (
	"bytes"
	"fmt"
	"strings"
	"testing"

	"packthread/api"
	"packthread/delta"
)

// The limits and the numbers of errors, written out: they must not move with the program.
const (
	least = 8    // bytes that are copied
	most  = 2048 // bytes of a file, and pieces

	ok       = api.Errno(0)
	errSize  = api.Errno(1)
	errRange = api.Errno(2)
	errForm  = api.Errno(4)
	errOver  = api.Errno(11)
)

// copied: the piece that is so many bytes from a place on.
func copied(from, n int) api.Piece { return api.Piece{Copy: true, From: from, Len: n} }

// told: the piece that is these bytes.
func told(s string) api.Piece { return api.Piece{Data: []byte(s)} }

// short: a text, quoted; of a long one its beginning and its length.
func short(s string) string {
	if len(s) > 80 {
		return fmt.Sprintf("%q..%d", s[:20], len(s))
	}
	return fmt.Sprintf("%q", s)
}

// shorts: pieces as a text; of many the first ones and how many there are.
func shorts(l []api.Piece) string {
	var s []string
	for _, p := range l[:min(len(l), 12)] {
		s = append(s, fmt.Sprintf("{%v %d %d %s}", p.Copy, p.From, p.Len, short(string(p.Data))))
	}
	return fmt.Sprint(len(l), ": ", strings.Join(s, " "))
}

// same: whether both are the same pieces, a list without elements being none.
func same(a, b []api.Piece) bool {
	if len(a) != len(b) {
		return false
	}
	for i, p := range a {
		q := b[i]
		if p.Copy != q.Copy || p.From != q.From || p.Len != q.Len || !bytes.Equal(p.Data, q.Data) {
			return false
		}
	}
	return true
}

// isDelta: these are the pieces, they are of the form that pieces have, and the file is made of them again.
func isDelta(t *testing.T, old, now string, want ...api.Piece) {
	t.Helper()
	l, code := delta.Delta([]byte(old), []byte(now))
	if code != ok || !same(l, want) {
		t.Fatalf("Delta(%s, %s): %s %d, want %s", short(old), short(now), shorts(l), code, shorts(want))
	}
	isFormed(t, old, now, l)
}

// isFormed: a piece is a copy of enough bytes, or Data, never both, and never none; Data stands alone; and all of them make the file.
func isFormed(t *testing.T, old, now string, l []api.Piece) {
	t.Helper()
	for i, p := range l {
		switch {
		case p.Copy && (p.Len < least || len(p.Data) > 0),
			!p.Copy && (p.From != 0 || p.Len != 0 || len(p.Data) == 0),
			!p.Copy && i > 0 && !l[i-1].Copy:
			t.Fatalf("Delta(%s, %s): piece %d of %s", short(old), short(now), i, shorts(l))
		}
	}
	if b, code := delta.Patch([]byte(old), l); string(b) != now || code != ok {
		t.Fatalf("Patch(%s, %s): %s %d, want %s", short(old), shorts(l), short(string(b)), code, short(now))
	}
}

// isTooLong: Delta refuses these files.
func isTooLong(t *testing.T, old, now string) {
	t.Helper()
	if l, code := delta.Delta([]byte(old), []byte(now)); len(l) != 0 || code != errSize {
		t.Fatalf("Delta(%d bytes, %d bytes): %s %d", len(old), len(now), shorts(l), code)
	}
}

// from: n bytes, of which no 8 that follow one another come twice, and none of which stands in words.
func from(n int) string {
	var b []byte
	for i := range (n + 1) / 2 {
		b = append(b, byte(128+i%127), byte(128+i/127))
	}
	return string(b[:n])
}

// P18.1: nothing, and little.

func TestDeltaOfNothing(t *testing.T) {
	isDelta(t, "", "")
	isDelta(t, "a", "")
	isDelta(t, "0123456789", "")
	isDelta(t, from(most), "")
	isDelta(t, "", "a", told("a"))
	isDelta(t, "", "01234567", told("01234567"))
	isDelta(t, "", "0123456701234567", told("0123456701234567"))
	isDelta(t, "", from(most), told(from(most)))
	for _, old := range [][]byte{nil, {}, []byte("spare")[:0]} {
		for _, now := range [][]byte{nil, {}, []byte("spare")[:0]} {
			if l, code := delta.Delta(old, now); len(l) != 0 || code != ok {
				t.Fatalf("nothing of nothing: %v %d", l, code)
			}
		}
	}
}

func TestDeltaOfTheSame(t *testing.T) {
	for n := range 300 {
		if s := from(n); n < least {
			isDelta(t, s+"x", s+"y", told(s+"y"))
		} else {
			isDelta(t, s, s, copied(0, n))
		}
	}
	for n := 1; n < least; n++ {
		isDelta(t, from(n), from(n), told(from(n)))
	}
	isDelta(t, from(most), from(most), copied(0, most))
}

func TestDeltaOfEachLength(t *testing.T) {
	for _, n := range []int{0, 1, least, 1000, most - 1, most} {
		for _, k := range []int{0, 1, least, 1000, most - 1, most} {
			var want []api.Piece
			if k > 0 {
				want = append(want, told(strings.Repeat("b", k)))
			}
			isDelta(t, strings.Repeat("a", n), strings.Repeat("b", k), want...)
			for _, more := range []int{1, 2, 200, most, 1 << 16, 1<<16 + 5, 1 << 20} {
				isTooLong(t, strings.Repeat("a", most+more), strings.Repeat("b", k))
				isTooLong(t, strings.Repeat("a", n), strings.Repeat("a", most+more))
				isTooLong(t, strings.Repeat("a", most+more), strings.Repeat("a", most+more))
			}
		}
	}
	roomy := append([]byte(from(most)), make([]byte, 5000)...)[:most] // spare room does not count
	if l, code := delta.Delta(roomy, roomy); !same(l, []api.Piece{copied(0, most)}) || code != ok {
		t.Fatalf("with spare room: %s %d", shorts(l), code)
	}
}

// P18.1: at least MinMatch bytes.

func TestHowManyInCommon(t *testing.T) {
	for n := 0; n <= 40; n++ {
		s := from(n)
		for _, old := range []string{s, s + "AB", "AB" + s, "AB" + s + "CD"} {
			at := strings.Index(old, s)
			if n < least {
				isDelta(t, old, "x"+s+"y", told("x"+s+"y"))
				isDelta(t, old, s+"y", told(s+"y"))
				isDelta(t, old, "x"+s, told("x"+s))
				continue
			}
			isDelta(t, old, s, copied(at, n))
			isDelta(t, old, "x"+s+"y", told("x"), copied(at, n), told("y"))
			isDelta(t, old, s+"y", copied(at, n), told("y"))
			isDelta(t, old, "x"+s, told("x"), copied(at, n))
			isDelta(t, old, s+s, copied(at, n), copied(at, n))
			isDelta(t, old, s+"z"+s, copied(at, n), told("z"), copied(at, n))
			isDelta(t, old, s+s[:least-1], copied(at, n), told(s[:least-1]))
		}
	}
}

// TestOneBehindTheOther: bytes that stand apart in the old file are no run.
func TestOneBehindTheOther(t *testing.T) {
	isDelta(t, "0123-4567", "01234567", told("01234567"))
	isDelta(t, "0123456-7", "01234567", told("01234567"))
	isDelta(t, "76543210", "01234567", told("01234567"))
	isDelta(t, "0123456701234567", "45670123", copied(4, 8))
	isDelta(t, "456701234567", "01234567", copied(4, 8))
	isDelta(t, "1234567-0", "01234567", told("01234567")) // nor do they go round
	isDelta(t, "01234567", "12345670", told("12345670"))
	isDelta(t, "0123456", "01234567", told("01234567"))
	isDelta(t, "1234567", "01234567", told("01234567"))
	isDelta(t, "01234567", "0123456", told("0123456"))
}

// TestWhereWhatIsCommonStands: at the beginning, in the middle and at the end of either.
func TestWhereWhatIsCommonStands(t *testing.T) {
	common := "the common run"
	for _, before := range []string{"", "A", "ABCDEFG", "ABCDEFGH", strings.Repeat("AB", 300)} {
		for _, behind := range []string{"", "C", "CDEFGHI", "CDEFGHIJ", strings.Repeat("CD", 300)} {
			for _, ahead := range []string{"", "u", "uvwxyz1", "uvwxyz12", strings.Repeat("uv", 300)} {
				for _, after := range []string{"", "3", "3456789", "34567890", strings.Repeat("34", 300)} {
					var want []api.Piece
					if ahead != "" {
						want = append(want, told(ahead))
					}
					want = append(want, copied(len(before), len(common)))
					if after != "" {
						want = append(want, told(after))
					}
					isDelta(t, before+common+behind, ahead+common+after, want...)
				}
			}
		}
	}
}

// TestRunsThatEndWithAFile: a run ends where either file does, though more would follow in the other one.
func TestRunsThatEndWithAFile(t *testing.T) {
	isDelta(t, "xx01234567", "0123456789", copied(2, 8), told("89"))
	isDelta(t, "0123456789", "01234567", copied(0, 8))
	isDelta(t, "xx0123456789", "yy01234567", told("yy"), copied(2, 8))
	isDelta(t, "0123456789", "23456789", copied(2, 8))
	isDelta(t, "0123456789", "3456789", told("3456789"))
	isDelta(t, "0123456789", "34567890", told("34567890"))
	isDelta(t, "0123456789", "234567890", copied(2, 8), told("0"))
	isDelta(t, from(most), from(most)[most-least:], copied(most-least, least))
	isDelta(t, from(most), from(most)[most-least+1:], told(from(most)[most-least+1:]))
	isDelta(t, from(most), "x"+from(most)[:most-1], told("x"), copied(0, most-1))
	isDelta(t, "x"+from(most)[:most-1], from(most), copied(1, most-1), told(from(most)[most-1:]))
	isDelta(t, from(most)[:most-1]+"x", from(most), copied(0, most-1), told(from(most)[most-1:]))
	for n := least; n < 60; n++ {
		isDelta(t, from(60), from(60)[:n], copied(0, n))
		isDelta(t, from(60), from(60)[60-n:], copied(60-n, n))
		isDelta(t, from(n), from(60), copied(0, n), told(from(60)[n:]))
		isDelta(t, from(60)[60-n:], from(60), append(said(from(60)[:60-n]), copied(0, n))...)
	}
}

// said: the one piece that is these bytes, or none where there are none.
func said(s string) []api.Piece {
	if s == "" {
		return nil
	}
	return []api.Piece{told(s)}
}

// P18.1: as many as can be, from where most of them stand.

// TestTheGreatestOfSeveralPlaces: one of five places has more bytes than the others.
func TestTheGreatestOfSeveralPlaces(t *testing.T) {
	for n := least; n < 30; n++ {
		for at := range 5 {
			for few := least; few <= n; few++ {
				var old string
				var best int
				for i := range 5 {
					if i == at {
						best = len(old)
						old += from(n) + "A"
					} else {
						old += from(few-1) + "B"
					}
				}
				isDelta(t, old, from(n), copied(best, n))
				isDelta(t, old, "x"+from(n)+"y", told("x"), copied(best, n), told("y"))
				isDelta(t, old[:len(old)-1], from(n), copied(best, n))
			}
		}
	}
}

// TestTheFirstOfSeveralPlaces: as many bytes stand at each of several.
func TestTheFirstOfSeveralPlaces(t *testing.T) {
	for n := least; n < 40; n++ {
		for few := range 4 {
			for many := 1; many < 5; many++ {
				ahead := strings.Repeat(from(n-1)+"B", few) // less stands there
				old := ahead + strings.Repeat(from(n)+"A", many)
				isDelta(t, old, from(n), copied(len(ahead), n))
				isDelta(t, old+"C"+from(n-1), from(n), copied(len(ahead), n))
				isDelta(t, old+"C"+from(n), from(n), copied(len(ahead), n))
				isDelta(t, old, from(n)+"x"+from(n), copied(len(ahead), n), told("x"), copied(len(ahead), n))
			}
		}
	}
	isDelta(t, "01234567ab01234567ab", "01234567ab", copied(0, 10))
	isDelta(t, "01234567ab01234567abc", "01234567abc", copied(10, 11))
	isDelta(t, "01234567abx01234567aby01234567abx", "01234567abx", copied(0, 11))
	isDelta(t, "01234567abx01234567aby01234567abx", "01234567aby", copied(11, 11))
	isDelta(t, "01234567abx01234567aby01234567abx", "01234567abz", copied(0, 10), told("z"))
}

// P18.1: the same again and again.

func TestRunsOfOneByte(t *testing.T) {
	for n := range 60 {
		for k := range 60 {
			var want []api.Piece
			for left := k; left > 0; left -= n {
				if n < least || left < least {
					want = append(want, told(strings.Repeat("a", left)))
					break
				}
				want = append(want, copied(0, min(left, n)))
			}
			isDelta(t, strings.Repeat("a", n), strings.Repeat("a", k), want...)
		}
	}
	a := strings.Repeat("a", most)
	isDelta(t, a, a, copied(0, most))
	isDelta(t, a[1:], a, copied(0, most-1), told("a"))
	isDelta(t, a, a[1:], copied(0, most-1))
	isDelta(t, a[:most/2]+"b"+a[:most/2-1], a, copied(0, most/2), copied(0, most/2))
	isDelta(t, a[:most/2-1]+"b"+a[:most/2], a, copied(most/2, most/2), copied(most/2, most/2))
	isDelta(t, a[:least], a, many(copied(0, least), most/least)...)
}

func many(p api.Piece, n int) (l []api.Piece) {
	for range n {
		l = append(l, p)
	}
	return l
}

func TestTheSameAgainAndAgain(t *testing.T) {
	ab := strings.Repeat("ab", most/2)
	isDelta(t, ab, ab, copied(0, most))
	isDelta(t, ab, ab[1:], copied(1, most-1))
	isDelta(t, ab, ab[2:], copied(0, most-2))
	isDelta(t, ab, ab[1:]+"b", copied(1, most-1), told("b"))
	isDelta(t, ab[:100], ab[:950], append(many(copied(0, 100), 9), copied(0, 50))...)
	isDelta(t, ab[:100], ab[1:950], append(append([]api.Piece{copied(1, 99)}, many(copied(0, 100), 8)...), copied(0, 50))...)
	a := strings.Repeat("a", most)
	var now string
	var want []api.Piece
	for len(now)+least+1 <= most { // at each of many places as few bytes stand
		now += a[:least] + "b"
		want = append(want, copied(0, least), told("b"))
	}
	isDelta(t, a, now, want...)
	now, want = "", nil
	for len(now)+least <= most {
		now += a[:least-1] + "b"
	}
	isDelta(t, a, now, told(now))
	isDelta(t, now, a, told(a))
	isDelta(t, now, now, copied(0, len(now)))
	isDelta(t, a[:most-1]+"b", a, copied(0, most-1), told("a"))
	isDelta(t, a[:most-1]+"b", a[:most-2]+"bb", copied(1, most-1), told("b"))
	isDelta(t, a[:1000]+"b"+a[:1000], a[:999]+"b"+a[:1000]+"c", copied(1, 2000), told("c"))
}

// P18.1: from left to right.

// TestFromLeftToRight: what can be copied is copied, though a longer run begins a byte later.
func TestFromLeftToRight(t *testing.T) {
	isDelta(t, "01234567-123456789abcdef", "0123456789abcdef", copied(0, 8), copied(16, 8))
	isDelta(t, "01234567-123456789abcde", "0123456789abcde", copied(0, 8), told("89abcde"))
	isDelta(t, "123456789abcdef-01234567", "0123456789abcdef", copied(16, 8), copied(7, 8))
	isDelta(t, "0123456-123456789abcdef", "0123456789abcdef", told("0"), copied(8, 15))
	isDelta(t, "01234567-"+from(500), "01234567"+from(500), copied(0, 8), copied(9, 500))
	isDelta(t, "0123456x-x"+from(500), "0123456x"+from(500), copied(0, 8), copied(10, 500))
	isDelta(t, "01234567", "001234567", told("0"), copied(0, 8))
	isDelta(t, "aaaaaaaab", "aaaaaaaaaab", copied(0, 8), told("aab")) // what is copied does not come again
	isDelta(t, "aaaaaaaab", "aaaaaaaaab", copied(0, 8), told("ab"))
	isDelta(t, "abcdefghijklmnopqrstuvwxyz", "ijklmnopqrstuvwxyzabcdefgh", copied(8, 18), copied(0, 8))
	isDelta(t, "abcdefghijklmnopqrstuvwxyz", "abcdefghabcdefghabcdefghi", copied(0, 8), copied(0, 8), copied(0, 9))
}

// P18.1: bytes that are told.

func TestToldBehindOneAnother(t *testing.T) {
	for n := 1; n < 50; n++ {
		s := strings.Repeat("xyz", n)[:n]
		isDelta(t, "01234567", s, told(s))
		isDelta(t, "01234567", s+"01234567", told(s), copied(0, 8))
		isDelta(t, "01234567", "01234567"+s, copied(0, 8), told(s))
		isDelta(t, "01234567", "01234567"+s+"01234567", copied(0, 8), told(s), copied(0, 8))
		isDelta(t, "01234567", s+"01234567"+s, told(s), copied(0, 8), told(s))
		isDelta(t, "01234567", s+"01234567"+s+"01234567"+s, told(s), copied(0, 8), told(s), copied(0, 8), told(s))
	}
	isDelta(t, "0123456789", "x01234567y23456789z345", told("x"), copied(0, 8), told("y"), copied(2, 8), told("z345"))
}

// TestAllBytes: each is told, and copied, as it is.
func TestAllBytes(t *testing.T) {
	for v := range 256 {
		b := string([]byte{byte(v)})
		isDelta(t, "", b, told(b))
		isDelta(t, strings.Repeat(b, 7), strings.Repeat(b, 9), told(strings.Repeat(b, 9)))
		isDelta(t, strings.Repeat(b, 8), strings.Repeat(b, 9), copied(0, 8), told(b))
		for _, other := range []byte{byte(v + 1), byte(v + 128), 0, 255} {
			if c := string([]byte{other}); c != b {
				isDelta(t, "0123"+b+"4567", "0123"+c+"4567", told("0123"+c+"4567"))
				isDelta(t, "0123"+c+"4567"+"0123"+b+"4567", "0123"+b+"4567", copied(9, 9))
				isDelta(t, "01234567"+c+"01234567"+b, "01234567"+b, copied(9, 9))
			}
		}
	}
	isDelta(t, "ääää", "öääää", told("ö"), copied(0, 8))
	isDelta(t, "aäääa", "üääü", told("üääü"))
}
