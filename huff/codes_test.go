package huff_test

import (
	"slices"
	"strings"
	"testing"

	"packthread/huff"
)

// areCodes: those that the plain model tells, and no code begins with another one.
func areCodes(t *testing.T, lengths []int) []int {
	t.Helper()
	codes, code := huff.Codes(lengths)
	if len(codes) != len(lengths) || code != ok {
		t.Fatalf("Codes(%s): %s %d", short(lengths), short(codes), code)
	}
	plain := plainCodes(lengths)
	for s, c := range codes {
		if c != plainNumber(plain[s]) {
			t.Fatalf("Codes(%s): of %d %b, want %s", short(lengths), s, c, plain[s])
		}
		for o := range codes {
			if n := lengths[o] - lengths[s]; o != s && lengths[s] > 0 && n >= 0 && codes[o]>>n == c {
				t.Fatalf("Codes(%s): of %d %b, of %d %b", short(lengths), s, c, o, codes[o])
			}
		}
	}
	return codes
}

// areJust: these codes, written out.
func areJust(t *testing.T, lengths []int, want ...int) {
	t.Helper()
	if codes := areCodes(t, lengths); !slices.Equal(codes, want) {
		t.Fatalf("Codes(%s): %s, want %s", short(lengths), short(codes), short(want))
	}
}

func TestCodes(t *testing.T) {
	areJust(t, nil)
	areJust(t, []int{})
	areJust(t, []int{7, 8}[:0])
	areJust(t, []int{0}, 0)
	areJust(t, []int{0, 0}, 0, 0)
	areJust(t, same(0, many), same(0, many)...)
	areJust(t, []int{1, 1}, 0, 1)
	areJust(t, []int{1, 2, 2}, 0, 2, 3)
	areJust(t, []int{2, 1, 2}, 2, 0, 3)
	areJust(t, []int{2, 2, 1}, 2, 3, 0)
	areJust(t, []int{3, 3, 3, 3, 3, 2, 4, 4}, 2, 3, 4, 5, 6, 0, 14, 15)
	areJust(t, []int{4, 4, 2, 3, 3, 3, 3, 3}, 14, 15, 0, 2, 3, 4, 5, 6)
	areJust(t, []int{2, 4, 4, 4, 4, 2, 2}, 0, 12, 13, 14, 15, 1, 2)
	areJust(t, []int{1, 9}, 0, 256)
	areJust(t, []int{9, 1}, 256, 0)
	for _, l := range good() {
		areCodes(t, l)
	}
}

// TestCodesThatAreNotUsed: sums below the bound.
func TestCodesThatAreNotUsed(t *testing.T) {
	for n := 1; n <= long; n++ {
		areJust(t, []int{n}, 0)
		areJust(t, []int{0, 0, n, 0}, 0, 0, 0, 0)
		areJust(t, []int{n, n}, 0, 1)
		if n > 1 {
			areJust(t, []int{n, 0, n, n}, 0, 0, 1, 2)
			areJust(t, []int{1, n}, 0, 1<<(n-1))
			areJust(t, []int{n, 0, 1}, 1<<(n-1), 0, 0)
		}
		if n > 2 {
			areJust(t, []int{n, 2, n}, 1<<(n-2), 0, 1<<(n-2)+1)
		}
	}
}

// TestCodesWithGapsBetween: lengths 0 at each place change nothing.
func TestCodesWithGapsBetween(t *testing.T) {
	for _, l := range good() {
		if len(l) == many {
			continue
		}
		codes := areCodes(t, l)
		for at := range len(l) + 1 {
			areJust(t, slices.Insert(slices.Clone(l), at, 0), slices.Insert(slices.Clone(codes), at, 0)...)
		}
	}
}

// TestCodesOfSums: just the bound, and one above, at the end of each stair and at each place.
func TestCodesOfSums(t *testing.T) {
	for n := 1; n <= long; n++ {
		l := stairs(n)
		var want []int
		for i := 1; i <= n; i++ {
			want = append(want, 1<<i-2)
		}
		want = append(want, 1<<n-1)
		areJust(t, l, want...)
		areJust(t, l[:n], want[:n]...)
		for _, more := range []int{1, n, min(n+1, long), long} { // at the bound whatever comes is too much
			for at := range len(l) + 1 {
				isOdd(t, slices.Insert(slices.Clone(l), at, more))
			}
		}
		for at := range l { // one bit less of one of them, and it is above
			if l[at] > 1 {
				isOdd(t, with(l, at, l[at]-1))
			}
			areCodes(t, with(l, at, 0))
			areCodes(t, with(l, at, min(l[at]+1, long)))
		}
	}
	for n := 1; n <= 6; n++ {
		areJust(t, same(n, 1<<n), upTo(1<<n)...)
		areJust(t, same(n, 1<<n-1), upTo(1<<n-1)...)
		for k := 1<<n + 1; k <= many; k++ {
			isOdd(t, same(n, k))
		}
		if n < 6 {
			isOdd(t, append(same(n, 1<<n), long))
			isOdd(t, append([]int{long}, same(n, 1<<n)...))
		}
	}
}

func TestCodesOfLengths(t *testing.T) {
	for _, n := range []int{1, 2, 3, 30, many - 1, many} {
		for at := range n {
			for _, x := range []int{0, 1, 2, 8, 33, long - 1, long} {
				areCodes(t, with(same(long, n), at, x))
				areCodes(t, with(same(0, n), at, x))
			}
			for _, x := range []int{-1, -2, long + 1, long + 2, 63, 64, 65, 1 << 32, -1 << 32} {
				isOdd(t, with(same(long, n), at, x))
				isOdd(t, with(same(0, n), at, x))
			}
		}
	}
}

func TestCodesOfHowMany(t *testing.T) {
	for _, x := range []int{0, 6, 7, long} {
		areCodes(t, same(x, many))
		areCodes(t, same(x, many-1))
		for _, n := range []int{many + 1, many + 2, 2 * many, 1000, 1 << 16} {
			isOdd(t, same(x, n))
			isOdd(t, with(same(x, n), n-1, 0))
		}
	}
}

// TestCodesOfLongOnes: of MaxLong bits.
func TestCodesOfLongOnes(t *testing.T) {
	areJust(t, same(long, many), upTo(many)...)
	l := append(stairs(long - 2)[:long-2], long, long, long, long)
	codes := areCodes(t, l)
	if last := codes[len(codes)-1]; last != 1<<long-1 {
		t.Fatalf("the last code of %v: %b", l, last)
	}
	if first := codes[long-2]; first != 1<<long-4 {
		t.Fatalf("the first code of %d bits: %b", long, first)
	}
	areJust(t, []int{long, 1, long - 1, long}, 1<<(long-1)+2, 0, 1<<(long-2), 1<<(long-1)+3)
}

func TestModelAllShortCodes(t *testing.T) {
	for n := range 7 {
		for _, l := range lists(n, 5) {
			if plainMay(l) {
				areCodes(t, l)
			} else if n < 6 {
				isOdd(t, l)
			} else if codes, code := huff.Codes(l); len(codes) != 0 || code != errForm {
				t.Fatalf("Codes(%v): %v %d", l, codes, code)
			}
		}
	}
}

func TestModelManyCodes(t *testing.T) {
	for seed := range uint32(3000) {
		roll := dice(seed)
		l := someLengths(roll)
		areCodes(t, l)
		l = with(l, roll(len(l)), roll(long+1))
		if plainMay(l) {
			areCodes(t, l)
		} else {
			isOdd(t, l)
		}
	}
}

// TestPlainCodes: the model itself, by the words of P19.3.
func TestPlainCodes(t *testing.T) {
	got := strings.Join(plainCodes([]int{5, 1, 0, 5, 3, 5, 3}), " ")
	if got != "11000 0  11001 100 11010 101" {
		t.Fatal(got)
	}
}
