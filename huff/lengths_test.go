package huff_test

import (
	"math"
	"math/bits"
	"slices"
	"testing"

	"packthread/api"
	"packthread/huff"
)

// isLeast: lengths that may be, of just those that come, of the least cost; and they are told.
func isLeast(t *testing.T, counts []int) []int {
	t.Helper()
	l, code := huff.Lengths(counts)
	if len(l) != len(counts) || code != ok {
		t.Fatalf("Lengths(%s): %s %d", short(counts), short(l), code)
	}
	for s, n := range counts {
		if n > 0 != (l[s] > 0) {
			t.Fatalf("Lengths(%s): %s: the symbol %d", short(counts), short(l), s)
		}
	}
	if !plainMay(l) {
		t.Fatalf("Lengths(%s): %s: they may not be", short(counts), short(l))
	}
	if got, want := costOf(counts, l), plainCost(counts); got != want {
		t.Fatalf("Lengths(%s): %s: they cost %d, not %d", short(counts), short(l), got, want)
	}
	if _, code := huff.Codes(l); code != ok {
		t.Fatalf("Codes(%s): %d", short(l), code)
	}
	return l
}

// areLengths: these ones, where there are no others of the least cost.
func areLengths(t *testing.T, counts, want []int) {
	t.Helper()
	if l := isLeast(t, counts); !slices.Equal(l, want) {
		t.Fatalf("Lengths(%s): %s, want %s", short(counts), short(l), short(want))
	}
}

// areNoLengths: the counts are refused so.
func areNoLengths(t *testing.T, counts []int, want api.Errno) {
	t.Helper()
	if l, code := huff.Lengths(counts); len(l) != 0 || code != want {
		t.Fatalf("Lengths(%s): %s %d, want %d", short(counts), short(l), code, want)
	}
}

func TestLengthsOfNothing(t *testing.T) {
	areLengths(t, nil, nil)
	areLengths(t, []int{}, nil)
	areLengths(t, []int{7, 8}[:0], nil)
	for n := range many + 1 {
		areLengths(t, same(0, n), same(0, n))
	}
}

func TestLengthsOfOne(t *testing.T) {
	for _, n := range []int{1, 2, 3, 1000, times - 1, times} {
		for k := 1; k <= many; k++ {
			for at := range k {
				areLengths(t, with(same(0, k), at, n), with(same(0, k), at, 1))
			}
		}
	}
}

func TestLengthsOfTwo(t *testing.T) {
	for _, a := range []int{1, 2, 1000, times} {
		for _, b := range []int{1, 3, times - 1, times} {
			for _, k := range []int{2, 3, 4, 9, 30, many} {
				for at := range k {
					for to := range at {
						areLengths(t, with(with(same(0, k), at, a), to, b), with(with(same(0, k), at, 1), to, 1))
					}
				}
			}
		}
	}
}

func TestLengthsOfThree(t *testing.T) {
	areLengths(t, []int{1, 1, 2}, []int{2, 2, 1})
	areLengths(t, []int{1, 2, 1}, []int{2, 1, 2})
	areLengths(t, []int{5, 1, 1}, []int{1, 2, 2})
	areLengths(t, []int{0, 5, 0, 6, 7, 0}, []int{0, 2, 0, 2, 1, 0})
	areLengths(t, []int{times, times - 1, times - 2}, []int{1, 2, 2})
	areLengths(t, []int{times - 1, times, 1}, []int{2, 1, 2})
}

// TestLengthsOfAll: all the same.
func TestLengthsOfAll(t *testing.T) {
	for _, x := range []int{1, 2, 3, 1000, times - 1, times} {
		for n := 2; n <= many; n++ {
			l := isLeast(t, same(x, n))
			low := bits.Len(uint(n)) - 1
			for _, k := range l {
				if k != low && k != low+1 || n == 1<<low && k != low {
					t.Fatalf("Lengths(%d times %d): %s", n, x, short(l))
				}
			}
			isLeast(t, append(same(0, many-n), same(x, n)...))
		}
	}
	areLengths(t, same(times, 2), []int{1, 1})
	areLengths(t, same(times, many), same(6, many))
}

// TestLengthsTwiceTheOneAhead: in whatever order.
func TestLengthsTwiceTheOneAhead(t *testing.T) {
	for n := 2; n <= 21; n++ {
		var counts, want []int
		for i := range n {
			counts = append(counts, 1<<i)
			want = append(want, min(n-i, n-1))
		}
		areLengths(t, counts, want)
		areLengths(t, turned(counts), turned(want))
		roll := dice(uint32(n))
		for range 10 {
			var c, w []int
			for _, i := range mixed(roll, upTo(n)) {
				c, w = append(c, counts[i], 0), append(w, want[i], 0)
			}
			areLengths(t, c, w)
		}
	}
}

// slow: counts that ascend as slowly as makes codes the longest: each one as often as the two ahead of it, up to the bound.
func slow(n, bound int) []int {
	l := []int{1, 1}
	for len(l) < n {
		l = append(l, min(bound, l[len(l)-1]+l[len(l)-2]))
	}
	return l[:n]
}

func TestLengthsOfTheLongestCodes(t *testing.T) {
	for n := 2; n <= 30; n++ { // the 30th one is 832040
		counts := slow(n, times)
		want := append([]int{n - 1}, turned(stairs(n - 1)[:n-1])...)
		areLengths(t, counts, want)
		areLengths(t, turned(counts), turned(want))
		isLeast(t, append(same(0, 20), counts...))
	}
	longest := 0
	for _, bound := range []int{1, 2, 3, 100, 1000, 317811, 514229, 600000, 832040, 900000, times - 1, times} {
		for n := 30; n <= many; n++ {
			counts := slow(n, bound)
			longest = max(longest, slices.Max(isLeast(t, counts)), slices.Max(isLeast(t, turned(counts))))
		}
	}
	for few := 2; few <= 31; few++ { // and behind them many that come as often as may be, or half so, or ..
		for by := 1; by <= 4; by++ {
			counts := slow(few, times)
			for len(counts) < many {
				counts = append(counts, times-(len(counts)%by)*(times/by))
			}
			longest = max(longest, slices.Max(isLeast(t, counts)))
		}
	}
	if longest < 33 {
		t.Fatalf("the longest code has only %d bits", longest)
	}
}

// P19.2: errors.

func TestLengthsOfTooMany(t *testing.T) {
	for _, n := range []int{many + 1, many + 2, 2 * many, 1000, 1 << 16, 1<<16 + 3, 1 << 20} {
		for _, x := range []int{0, 1, times, -1, times + 1, math.MinInt, math.MaxInt} {
			areNoLengths(t, same(x, n), errSize)
			for _, at := range []int{0, 1, many - 1, many, n - 1} {
				areNoLengths(t, with(same(1, n), at, x), errSize)
			}
		}
	}
	for _, x := range []int{0, 1, 2, times} {
		isLeast(t, same(x, many))
		isLeast(t, same(x, many-1))
	}
}

func TestLengthsOfCounts(t *testing.T) {
	for _, n := range []int{1, 2, 3, 9, many - 1, many} {
		for at := range n {
			for _, x := range []int{0, 1, 5, times} {
				for _, y := range []int{0, 1, times - 1, times} {
					isLeast(t, with(same(x, n), at, y))
				}
				for _, y := range append(far(), -1, times+1, times+2, 2*times) {
					areNoLengths(t, with(same(x, n), at, y), errRange)
					areNoLengths(t, with(with(same(x, n), n-1, y), at, y), errRange)
				}
			}
		}
	}
}

// P19.2: no lengths cost less.

// searched: the least cost of any lengths up to top that may be, in which just those that come have a code.
func searched(counts []int, all [][]int) int {
	least := math.MaxInt
	for _, l := range all {
		cost, at := 0, 0
		for _, n := range counts {
			if n > 0 {
				cost += n * l[at]
				at++
			}
		}
		least = min(least, cost)
	}
	return least
}

// allLengths: all of n lengths from 1 to top that may be.
func allLengths(n, top int) [][]int {
	var out [][]int
	for _, l := range lists(n, top) {
		for i := range l {
			l[i]++
		}
		if plainMay(l) {
			out = append(out, l)
		}
	}
	return out
}

func TestLengthsAgainstASearchOfAll(t *testing.T) {
	top := []int{long, long, long, long, 7, 6, 6} // beyond that none of so few costs less than with shorter ones
	var all [][][]int
	for n := range top {
		all = append(all, allLengths(n, top[n]))
	}
	search := func(counts []int) {
		t.Helper()
		l := isLeast(t, counts)
		n := 0
		for _, x := range counts {
			if x > 0 {
				n++
			}
		}
		if got, want := costOf(counts, l), searched(counts, all[n]); got != want {
			t.Fatalf("Lengths(%v): %v: they cost %d, but others %d", counts, l, got, want)
		}
	}
	for _, counts := range lists(3, 5) {
		search(counts)
	}
	for _, counts := range lists(4, 5) {
		if counts[0] > 0 && counts[1] > 0 && counts[2] > 0 {
			search(append([]int{0}, counts...))
		}
	}
	roll := dice(7)
	for n := 4; n < len(top); n++ {
		for range 60 {
			var counts []int
			for range n {
				counts = append(counts, []int{roll(3), roll(10), roll(100), roll(times + 1), 1 << roll(21), times}[roll(6)])
			}
			if n < 6 || slices.Min(counts) > 0 {
				search(counts)
			}
		}
		search(slow(n, times))
		search(same(times, n))
	}
}

func TestLengthsOfManyAgainstTheSum(t *testing.T) {
	for _, counts := range lists(5, 6) {
		isLeast(t, counts)
	}
	for seed := range uint32(4000) {
		roll := dice(seed)
		top := []int{1, 2, 10, 1000, times}[roll(5)]
		counts := make([]int, roll(many+1))
		for i := range counts {
			switch roll(5) {
			case 0:
				counts[i] = 0
			case 1:
				counts[i] = 1 << roll(21)
			default:
				counts[i] = roll(top + 1)
			}
		}
		isLeast(t, counts)
	}
}
