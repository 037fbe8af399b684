package hole_test

import (
	"fmt"
	"math"
	"slices"
	"sync"
	"testing"

	"packthread/api"
	"packthread/hole"
)

// The limits, written out: they must not move with the program.
const (
	most  = 1048576 // the greatest place
	holes = 16      // ranges at most
)

// same: whether a list has just these ranges; without any it may be nil or not.
func same(l, want []api.Range) bool {
	return slices.Equal(l, want)
}

func isMay(t *testing.T, done int, l []api.Range, want bool) {
	if got := hole.May(done, l); got != want {
		t.Helper()
		t.Fatalf("May(%d, %v): %v, want %v", done, l, got, want)
	}
}

func isAdd(t *testing.T, done int, l []api.Range, r api.Range, want int, ranges []api.Range, code api.Errno) {
	if got, out, e := hole.Add(done, l, r); got != want || !same(out, ranges) || e != code {
		t.Helper()
		t.Fatalf("Add(%d, %v, %v): %d %v %d, want %d %v %d", done, l, r, got, out, e, want, ranges, code)
	}
}

func isSacks(t *testing.T, done int, l []api.Range, last, n int, want []api.Range, code api.Errno) {
	if out, e := hole.Sacks(done, l, last, n); !same(out, want) || e != code {
		t.Helper()
		t.Fatalf("Sacks(%d, %v, %d, %d): %v %d, want %v %d", done, l, last, n, out, e, want, code)
	}
}

func isGaps(t *testing.T, done int, l []api.Range, want []api.Range, code api.Errno) {
	if out, e := hole.Gaps(done, l); !same(out, want) || e != code {
		t.Helper()
		t.Fatalf("Gaps(%d, %v): %v %d, want %v %d", done, l, out, e, want, code)
	}
}

// ranges: of two and two numbers.
func ranges(l ...int) []api.Range {
	var out []api.Range
	for ; len(l) > 0; l = l[2:] {
		out = append(out, api.Range{From: l[0], To: l[1]})
	}
	return out
}

// many: n ranges of size places, with gaps of gap places between, from the place from on.
func many(n, from, size, gap int) []api.Range {
	var l []api.Range
	for range n {
		l = append(l, api.Range{From: from, To: from + size})
		from += size + gap
	}
	return l
}

// came: places from base on, each told whether it came; all below base did. It knows no ranges: they are counted out of it.
type came struct {
	base int
	at   []bool
}

// runs: the ranges of places beyond done that came (which), or of those that did not, but for what lies behind the last one that came.
func (c came) runs(which bool) (l []api.Range) {
	end := len(c.at)
	for end > 0 && !c.at[end-1] {
		end--
	}
	for place := c.done(); place < c.base+end; place++ {
		switch {
		case c.at[place-c.base] != which:
		case len(l) > 0 && l[len(l)-1].To == place:
			l[len(l)-1].To++
		default:
			l = append(l, api.Range{From: place, To: place + 1})
		}
	}
	return l
}

func (c came) done() int {
	if i := slices.Index(c.at, false); i >= 0 {
		return c.base + i
	}
	return c.base + len(c.at)
}

// with: the places, when those of r came, too.
func (c came) with(r api.Range) came {
	at := slices.Clone(c.at)
	for place := r.From; place < r.To; place++ {
		if place >= c.base {
			at[place-c.base] = true
		}
	}
	return came{c.base, at}
}

// states: all ways in which n places from base on may have come.
func states(base, n int) []came {
	var l []came
	for bits := range 1 << n {
		at := make([]bool, n)
		for i := range at {
			at[i] = bits>>i&1 == 1
		}
		l = append(l, came{base, at})
	}
	return l
}

// bases: of few places: at the beginning, between, and up to the last place of all.
func bases(n int) []int {
	return []int{0, 100, most - n}
}

// noForm: done and ranges that may not be.
type noForm struct {
	done int
	l    []api.Range
}

func noForms() []noForm {
	l := []noForm{
		{-1, nil}, {-1, ranges(3, 4)}, {-most, nil}, {most + 1, nil}, {most + 1, ranges(most+2, most+3)},
		{math.MinInt64, nil}, {math.MaxInt64, nil}, {1 << 32, nil}, {-1 << 32, nil}, {1<<32 + 5, nil}, {-1<<32 + 5, ranges(10, 12)},
		{5, ranges(5, 6)}, {5, ranges(4, 6)}, {5, ranges(3, 4)}, {5, ranges(0, 9)}, {0, ranges(0, 1)}, {most, ranges(most, most+1)}, // not above done
		{5, ranges(7, 7)}, {5, ranges(8, 7)}, {5, ranges(7, 6)}, {5, ranges(9, 5)}, {5, ranges(9, 0)}, {5, ranges(9, -9)}, // without places, or turned round
		{5, ranges(7, 9, 9, 12)}, {5, ranges(7, 9, 8, 12)}, {5, ranges(7, 9, 7, 9)}, {5, ranges(7, 9, 6, 12)}, {5, ranges(7, 12, 8, 9)}, // not above the one ahead
		{5, ranges(20, 30, 10, 12)}, {5, ranges(10, 12, 30, 40, 20, 22)}, {5, ranges(10, 12, 14, 16, 16, 18)},
		{5, ranges(10, 12, 14, 14)}, {5, ranges(10, 12, 14, 14, 16, 18)}, {5, ranges(10, 12, 15, 14, 16, 18)},
		{5, ranges(7, most+1)}, {5, ranges(most, most+1)}, {most, ranges(most+1, most+2)}, {5, ranges(10, 12, most-1, most+1)}, {5, ranges(10, 12, most+1, most+2)},
		{5, ranges(7, math.MaxInt64)}, {5, ranges(math.MaxInt64-1, math.MaxInt64)}, {5, ranges(math.MinInt64, 7)}, {5, ranges(-7, 7)}, {5, ranges(math.MinInt64, math.MaxInt64)},
		{5, ranges(math.MaxInt64, math.MinInt64)}, {5, ranges(1<<32+7, 1<<32+9)}, {5, ranges(7, 1<<32+9)}, {5, ranges(10, 12, math.MinInt64, math.MinInt64+1)}, {0, ranges(-3, -2)},
	}
	for n := holes + 1; n < holes+6; n++ {
		l = append(l, noForm{0, many(n, 1, 1, 1)}, noForm{0, many(n, 7, 40, 9)}, noForm{most - 2*n, many(n, most-2*n+1, 1, 1)})
	}
	l = append(l, noForm{0, many(70000, 1, 1, 1)}, noForm{0, many(holes, most-2*holes+2, 1, 1)}, noForm{0, make([]api.Range, 1)}, noForm{0, make([]api.Range, 1000)})
	for at := range holes { // whichever of many is a bad one
		for _, bad := range ranges(0, 0, 0, 1, 1, 0, 3, most+1, -1, 0, most, most+1, math.MinInt64, math.MaxInt64) {
			list := many(holes, 11, 3, 2)
			list[at] = bad
			l = append(l, noForm{10, list})
		}
		for _, near := range [][2]int{{-2, -1}, {-2, 0}, {0, -3}, {0, 2}, {0, 3}} { // touches the one ahead, or behind, or has no places
			if near[1] <= 0 || at < holes-1 { // behind the last one there is none to be touched
				list := many(holes, 11, 3, 2)
				list[at].From += near[0]
				list[at].To += near[1]
				l = append(l, noForm{10, list})
			}
		}
	}
	return l
}

// forms: done and ranges that may be, at the bounds and between.
func forms() []noForm {
	l := []noForm{
		{0, nil}, {0, []api.Range{}}, {5, nil}, {most - 1, nil}, {most, nil}, {most, []api.Range{}},
		{0, ranges(1, 2)}, {0, ranges(1, most)}, {0, ranges(most-1, most)}, {most - 2, ranges(most-1, most)},
		{5, ranges(10, 12, 20, 30)}, {5, ranges(6, 7, 8, 9)}, {5, ranges(10, 12, most-1, most)}, {5, ranges(6, 7, 8, most)},
	}
	for n := range holes + 1 {
		l = append(l, noForm{0, many(n, 1, 1, 1)}, noForm{7, many(n, 8, 40, 9)}, noForm{9, many(n, 50, 1, 70)}, noForm{most - 2*n, many(n, most-2*n+1, 1, 1)})
	}
	return l
}

// noRanges: what is no range of a stream, also without places, and also such as look like one when bits are cut off.
func noRanges() []api.Range {
	return ranges(
		-1, 0, -1, 1, -1, -1, -5, -3, -5, 50, -most, most, -5, -6,
		1, 0, 7, 6, 50, 7, most, 0, most, most-1, 0, -1, 0, math.MinInt64,
		0, most+1, 1, most+1, 7, most+7, most, most+1, most+1, most+1, most+1, most+2, most+1, most,
		math.MinInt64, math.MaxInt64, math.MaxInt64, math.MinInt64, math.MinInt64, math.MinInt64, math.MaxInt64, math.MaxInt64, math.MinInt64, 7, 7, math.MinInt64, 7, math.MaxInt64, math.MaxInt64, 7,
		1<<32+3, 1<<32+5, 3, 1<<32+5, 1<<32+3, 5, -1<<32+3, 5, -1<<32+3, -1<<32+5, 1<<62, 1<<62+1, 1<<31, 1<<31+1, -1<<31, 1<<31)
}

// far: numbers that are no count of ranges.
func far() []int {
	return []int{-1, -2, -holes, -17, holes + 1, holes + 2, 255, 256, 1 << 16, most, 1<<31 - 1, 1 << 31, 1 << 32, 1<<32 + 3, -1<<32 + 3, 1 << 62, math.MaxInt64, math.MaxInt64 - 1, math.MinInt64, math.MinInt64 + 1, math.MinInt64 + 3}
}

// P3.1: what may be.

func TestMay(t *testing.T) {
	for _, f := range forms() {
		isMay(t, f.done, f.l, true)
	}
	for _, f := range noForms() {
		isMay(t, f.done, f.l, false)
	}
}

func TestMayOfAllDone(t *testing.T) {
	for done := -3; done <= most+3; done++ {
		isMay(t, done, nil, done >= 0 && done <= most)
	}
}

func TestMayOfAllRanges(t *testing.T) {
	for _, base := range []int{0, most - 7} {
		for from := base - 2; from <= base+9; from++ {
			for to := base - 2; to <= base+9; to++ {
				good := from > base+1 && from < to && to <= most
				isMay(t, base+1, ranges(from, to), good)
				isMay(t, base, ranges(base+1, base+3, from, to), from > base+3 && from < to && to <= most)
				isMay(t, base+1, ranges(from, to, base+6, base+7), good && to < base+6)
			}
		}
	}
}

func TestMayOfManyRanges(t *testing.T) {
	for n := range 40 {
		isMay(t, 3, many(n, 4, 1, 1), n <= holes)
		isMay(t, 3, many(n, 5, 2, 3), n <= holes)
	}
}

func TestAllRefuseWhatMayNotBe(t *testing.T) {
	for _, f := range noForms() {
		for _, r := range append(noRanges(), ranges(0, 0, 5, 5, 6, 7, 3, 11, 0, most, most, most)...) {
			isAdd(t, f.done, f.l, r, 0, nil, api.ErrForm)
		}
		for _, n := range append(far(), 0, 1, 3, holes) {
			isSacks(t, f.done, f.l, 11, n, nil, api.ErrForm)
			isSacks(t, f.done, f.l, n, 3, nil, api.ErrForm)
		}
		isGaps(t, f.done, f.l, nil, api.ErrForm)
	}
}

// P3.2: Add.

func TestAddToNoRanges(t *testing.T) {
	isAdd(t, 0, nil, api.Range{From: 0, To: 1}, 1, nil, api.OK)
	isAdd(t, 0, nil, api.Range{From: 1, To: 2}, 0, ranges(1, 2), api.OK)
	isAdd(t, 0, nil, api.Range{From: 0, To: most}, most, nil, api.OK)
	isAdd(t, 5, nil, api.Range{From: 0, To: 3}, 5, nil, api.OK)
	isAdd(t, 5, nil, api.Range{From: 0, To: 5}, 5, nil, api.OK)
	isAdd(t, 5, nil, api.Range{From: 4, To: 5}, 5, nil, api.OK)
	isAdd(t, 5, nil, api.Range{From: 0, To: 6}, 6, nil, api.OK)
	isAdd(t, 5, nil, api.Range{From: 5, To: 6}, 6, nil, api.OK)
	isAdd(t, 5, nil, api.Range{From: 6, To: 7}, 5, ranges(6, 7), api.OK)
	isAdd(t, 5, nil, api.Range{From: most - 1, To: most}, 5, ranges(most-1, most), api.OK)
	isAdd(t, most, nil, api.Range{From: 0, To: most}, most, nil, api.OK)
	isAdd(t, most-1, nil, api.Range{From: most - 1, To: most}, most, nil, api.OK)
}

func TestAddToRanges(t *testing.T) {
	l := ranges(10, 12, 20, 30, 40, 50)
	for _, c := range []struct {
		r    api.Range
		done int
		want []api.Range
	}{
		{api.Range{From: 7, To: 8}, 5, ranges(7, 8, 10, 12, 20, 30, 40, 50)},     // apart from all
		{api.Range{From: 14, To: 18}, 5, ranges(10, 12, 14, 18, 20, 30, 40, 50)}, // between two
		{api.Range{From: 52, To: 53}, 5, ranges(10, 12, 20, 30, 40, 50, 52, 53)}, // behind all
		{api.Range{From: 9, To: 10}, 5, ranges(9, 12, 20, 30, 40, 50)},           // touches one from ahead
		{api.Range{From: 12, To: 13}, 5, ranges(10, 13, 20, 30, 40, 50)},         // and from behind
		{api.Range{From: 12, To: 20}, 5, ranges(10, 30, 40, 50)},                 // touches two
		{api.Range{From: 11, To: 21}, 5, ranges(10, 30, 40, 50)},                 // joins two
		{api.Range{From: 11, To: 41}, 5, ranges(10, 50)},                         // joins three
		{api.Range{From: 12, To: 40}, 5, ranges(10, 50)},                         // and where it touches two of them
		{api.Range{From: 9, To: 60}, 5, ranges(9, 60)},                           // has all within it
		{api.Range{From: 19, To: 31}, 5, ranges(10, 12, 19, 31, 40, 50)},         // has one within it
		{api.Range{From: 20, To: 30}, 5, l},                                      // is one
		{api.Range{From: 21, To: 29}, 5, l},                                      // lies within one
		{api.Range{From: 20, To: 21}, 5, l},                                      // at its beginning
		{api.Range{From: 29, To: 30}, 5, l},                                      // at its end
		{api.Range{From: 5, To: 6}, 6, l},                                        // touches done
		{api.Range{From: 3, To: 6}, 6, l},                                        // begins below done
		{api.Range{From: 0, To: 4}, 5, l},                                        // lies below it
		{api.Range{From: 0, To: 5}, 5, l},                                        // up to it
		{api.Range{From: 5, To: 9}, 9, l},                                        // ends just ahead of a range
		{api.Range{From: 5, To: 10}, 12, ranges(20, 30, 40, 50)},                 // joins done and one
		{api.Range{From: 3, To: 11}, 12, ranges(20, 30, 40, 50)},                 // and from below
		{api.Range{From: 5, To: 12}, 12, ranges(20, 30, 40, 50)},                 // up to its end
		{api.Range{From: 5, To: 15}, 15, ranges(20, 30, 40, 50)},                 // beyond it
		{api.Range{From: 5, To: 20}, 30, ranges(40, 50)},                         // joins done and two
		{api.Range{From: 0, To: 45}, 50, nil},                                    // joins done and all
		{api.Range{From: 0, To: most}, most, nil},                                // all there is
		{api.Range{From: 6, To: most}, 5, ranges(6, most)},                       // all but one
		{api.Range{From: 50, To: most}, 5, ranges(10, 12, 20, 30, 40, most)},     // up to the last place
		{api.Range{From: 51, To: most}, 5, append(slices.Clone(l), api.Range{From: 51, To: most})},
	} {
		isAdd(t, 5, l, c.r, c.done, c.want, api.OK)
	}
}

func TestAddWithoutPlaces(t *testing.T) {
	for _, f := range forms() {
		for _, at := range []int{0, 1, 4, 5, 6, 9, 10, 11, 12, 13, 20, 30, 31, most - 1, most, f.done} {
			isAdd(t, f.done, f.l, api.Range{From: at, To: at}, f.done, f.l, api.OK)
		}
	}
}

func TestAddOfAllThatMayHaveCome(t *testing.T) {
	const n = 8
	for _, base := range bases(n) {
		for _, c := range states(base, n) {
			done, l := c.done(), c.runs(true)
			isMay(t, done, l, true)
			for from := max(0, base-2); from <= base+n; from++ {
				for to := from; to <= base+n; to++ {
					r := api.Range{From: from, To: to}
					now := c.with(r)
					isAdd(t, done, l, r, now.done(), now.runs(true), api.OK)
				}
			}
		}
	}
}

func TestAddAndFull(t *testing.T) {
	for _, base := range []int{0, 1000, most - 100} {
		for n := holes - 2; n <= holes; n++ {
			for _, size := range []int{1, 2} {
				c := came{base, make([]bool, 100)}
				for _, r := range many(n, base+4, size, 3) {
					c = c.with(r)
				}
				for from := base; from <= base+100; from++ {
					for to := from; to <= base+100; to++ {
						r := api.Range{From: from, To: to}
						now := c.with(r)
						if l := now.runs(true); len(l) <= holes {
							isAdd(t, base, c.runs(true), r, now.done(), l, api.OK)
						} else {
							isAdd(t, base, c.runs(true), r, 0, nil, api.ErrFull)
						}
					}
				}
			}
		}
	}
}

func TestAddOneMoreThanMany(t *testing.T) {
	l := many(holes, 10, 5, 5) // the last one ends ahead of 165
	isAdd(t, 3, l, api.Range{From: 5, To: 9}, 0, nil, api.ErrFull)
	isAdd(t, 3, l, api.Range{From: 16, To: 19}, 0, nil, api.ErrFull)
	isAdd(t, 3, l, api.Range{From: 166, To: 167}, 0, nil, api.ErrFull)
	isAdd(t, 3, l, api.Range{From: most - 1, To: most}, 0, nil, api.ErrFull)
	isAdd(t, 3, l, api.Range{From: 16, To: 16}, 3, l, api.OK)
	isAdd(t, 3, l, api.Range{From: 3, To: 9}, 9, l, api.OK)
	isAdd(t, 3, l, api.Range{From: 0, To: 2}, 3, l, api.OK)
	isAdd(t, 3, l, api.Range{From: 3, To: 10}, 15, l[1:], api.OK)
	isAdd(t, 3, l, api.Range{From: 165, To: 167}, 3, append(slices.Clone(l[:holes-1]), api.Range{From: 160, To: 167}), api.OK)
	isAdd(t, 3, l[1:], api.Range{From: 5, To: 9}, 3, append(ranges(5, 9), l[1:]...), api.OK)
	isAdd(t, 3, l, api.Range{From: 4, To: most}, 3, ranges(4, most), api.OK)
}

func TestAddOfNoRange(t *testing.T) {
	for _, f := range forms() {
		for _, r := range noRanges() {
			isAdd(t, f.done, f.l, r, 0, nil, api.ErrRange)
		}
	}
}

func TestAddOfAllRanges(t *testing.T) {
	for from := -3; from <= 3; from++ {
		for to := -3; to <= 3; to++ {
			for _, base := range []int{0, most} {
				r := api.Range{From: base + from, To: base + to}
				if _, _, e := hole.Add(0, nil, r); (e == api.OK) != (r.From >= 0 && r.From <= r.To && r.To <= most) || e != api.OK && e != api.ErrRange {
					t.Fatalf("Add(0, nil, %v): %d", r, e)
				}
			}
		}
	}
}

func TestAddOneByOneInAnyOrder(t *testing.T) {
	for seed := range 200 {
		c := came{0, make([]bool, 60)}
		done, l := 0, []api.Range(nil)
		x := uint32(seed)
		for range 100 {
			x = x*1664525 + 1013904223
			from := int(x>>20) % 60
			r := api.Range{From: from, To: min(60, from+int(x>>10)%4)}
			if now := c.with(r); len(now.runs(true)) > holes {
				isAdd(t, done, l, r, 0, nil, api.ErrFull)
				continue
			}
			var e api.Errno
			c = c.with(r)
			done, l, e = hole.Add(done, l, r)
			if done != c.done() || !same(l, c.runs(true)) || e != api.OK {
				t.Fatalf("seed %d, %v: %d %v %d, want %d %v", seed, r, done, l, e, c.done(), c.runs(true))
			}
		}
	}
}

// P3.3: Sacks.

func TestSacks(t *testing.T) {
	l := ranges(10, 12, 20, 30, 40, 50)
	back := ranges(40, 50, 20, 30, 10, 12)
	for _, last := range append(far(), 0, 4, 5, 6, 9, 12, 13, 19, 30, 39, 50, 51) { // it is in none of them
		isSacks(t, 5, l, last, 3, back, api.OK)
		isSacks(t, 5, l, last, 1, back[:1], api.OK)
	}
	for n := range holes + 1 {
		for _, last := range []int{10, 11} { // in the first one
			isSacks(t, 5, l, last, n, ranges(10, 12, 40, 50, 20, 30)[:min(n, 3)], api.OK)
		}
		for _, last := range []int{20, 25, 29} { // between
			isSacks(t, 5, l, last, n, ranges(20, 30, 40, 50, 10, 12)[:min(n, 3)], api.OK)
		}
		for _, last := range []int{40, 49} { // in the last one
			isSacks(t, 5, l, last, n, back[:min(n, 3)], api.OK)
		}
		isSacks(t, 5, l, 15, n, back[:min(n, 3)], api.OK)
		isSacks(t, 5, nil, 5, n, nil, api.OK)
		isSacks(t, 5, ranges(7, 9), 8, n, ranges(7, 9)[:min(n, 1)], api.OK)
		isSacks(t, 5, ranges(7, 9), 9, n, ranges(7, 9)[:min(n, 1)], api.OK)
	}
	isSacks(t, most, nil, most, holes, nil, api.OK)
	isSacks(t, 0, ranges(3, 4, most-1, most), most-1, 2, ranges(most-1, most, 3, 4), api.OK)
	isSacks(t, 0, ranges(3, 4, most-1, most), 3, 2, ranges(3, 4, most-1, most), api.OK)
}

// told: the ranges as Sacks tells them: that of the place last is found by its places, and taken from among the others.
func told(l []api.Range, last, n int) (out []api.Range) {
	var rest []api.Range
	for _, r := range l {
		in := false
		for place := r.From; place < r.To; place++ {
			in = in || place == last
		}
		if in {
			out = append(out, r)
		} else {
			rest = append(rest, r)
		}
	}
	slices.Reverse(rest)
	out = append(out, rest...)
	for len(out) > n {
		out = out[:len(out)-1]
	}
	return out
}

func TestSacksOfAllThatMayHaveCome(t *testing.T) {
	const n = 9
	for _, base := range bases(n) {
		for _, c := range states(base, n) {
			done, l := c.done(), c.runs(true)
			for last := base - 2; last <= base+n+2; last++ {
				for _, count := range []int{0, 1, 2, 3, 4, 5, holes} {
					isSacks(t, done, l, last, count, told(l, last, count), api.OK)
				}
			}
		}
	}
}

func TestSacksOfMany(t *testing.T) {
	for n := range holes + 1 {
		l := many(n, 8, 3, 2)
		for last := 0; last < 100; last++ {
			for count := range holes + 1 {
				isSacks(t, 7, l, last, count, told(l, last, count), api.OK)
			}
		}
	}
}

func TestSacksOfNoSuchNumber(t *testing.T) {
	for _, f := range forms() {
		for _, n := range far() {
			for _, last := range append(far(), 0, 5, 11) {
				isSacks(t, f.done, f.l, last, n, nil, api.ErrRange)
			}
		}
		for n := -30; n <= 30; n++ {
			if _, e := hole.Sacks(f.done, f.l, 11, n); (e == api.OK) != (n >= 0 && n <= holes) {
				t.Fatalf("Sacks(%d, %v, 11, %d): %d", f.done, f.l, n, e)
			}
		}
	}
}

// P3.3: Gaps.

func TestGaps(t *testing.T) {
	isGaps(t, 0, nil, nil, api.OK)
	isGaps(t, 5, []api.Range{}, nil, api.OK)
	isGaps(t, most, nil, nil, api.OK)
	isGaps(t, 0, ranges(1, 2), ranges(0, 1), api.OK)
	isGaps(t, 5, ranges(10, 12, 20, 30), ranges(5, 10, 12, 20), api.OK)
	isGaps(t, 0, ranges(most-1, most), ranges(0, most-1), api.OK)
	isGaps(t, most-2, ranges(most-1, most), ranges(most-2, most-1), api.OK)
	isGaps(t, 5, ranges(6, 7, 8, most), ranges(5, 6, 7, 8), api.OK)
	isGaps(t, 9, many(holes, 12, 2, 3), many(holes, 9, 3, 2), api.OK)
}

func TestGapsOfAllThatMayHaveCome(t *testing.T) {
	const n = 11
	for _, base := range bases(n) {
		for _, c := range states(base, n) {
			isGaps(t, c.done(), c.runs(true), c.runs(false), api.OK)
		}
	}
}

func TestGapsAreWhatIsMissing(t *testing.T) {
	for _, f := range forms() {
		gaps, e := hole.Gaps(f.done, f.l)
		if e != api.OK || len(gaps) != len(f.l) {
			t.Fatalf("Gaps(%d, %v): %v %d", f.done, f.l, gaps, e)
		}
		done, l := f.done, f.l
		for i := len(gaps) - 1; i >= 0; i-- { // when they came, too, all is done
			done, l, e = hole.Add(done, l, gaps[i])
			if e != api.OK {
				t.Fatalf("Add(%d, %v, %v): %d", done, l, gaps[i], e)
			}
		}
		end := f.done
		if len(f.l) > 0 {
			end = f.l[len(f.l)-1].To
		}
		if done != end || len(l) > 0 {
			t.Fatalf("%v: %d %v, want %d", f, done, l, end)
		}
	}
}

// What holds everywhere.

// all: the lists that come out of done, the ranges, a range and a place.
func all(done int, l []api.Range, r api.Range, last int) [][]api.Range {
	_, add, _ := hole.Add(done, l, r)
	_, still, _ := hole.Add(done, l, api.Range{From: 3, To: 3})
	few, _ := hole.Sacks(done, l, last, 1)
	sacks, _ := hole.Sacks(done, l, last, holes)
	gaps, _ := hole.Gaps(done, l)
	return [][]api.Range{add, still, few, sacks, gaps}
}

// scribble: all of a list and of its spare room is another thing.
func scribble(l []api.Range) {
	l = l[:cap(l)]
	for i := range l {
		l[i] = api.Range{From: -77, To: -78}
	}
}

func asked() []api.Range {
	return ranges(0, 3, 5, 6, 6, 8, 10, 11, 12, 20, 50, 60, 0, most, 7, 7, -1, 3)
}

func TestListsHandedInAreNotChanged(t *testing.T) {
	for _, f := range append(forms(), noForms()[:40]...) {
		for _, r := range asked() {
			for _, last := range []int{-1, 9, 11, most - 1} {
				room := append(slices.Clone(f.l), many(holes+4, 70, 7, 7)...)
				kept := slices.Clone(room)
				l := room[:len(f.l)]
				hole.May(f.done, l)
				out := all(f.done, l, r, last)
				if !same(room, kept) {
					t.Fatalf("%d %v, %v: now %v", f.done, kept, r, room)
				}
				for _, one := range out {
					scribble(one)
				}
				if !same(room, kept) {
					t.Fatalf("%d %v, %v: what came out is shared with what went in: %v", f.done, kept, r, room)
				}
			}
		}
	}
}

func TestAnswersShareNothing(t *testing.T) {
	for _, f := range forms() {
		for _, r := range asked() {
			first := all(f.done, f.l, r, 11)
			var kept [][]api.Range
			for _, one := range first {
				kept = append(kept, slices.Clone(one[:cap(one)]))
			}
			for _, one := range all(f.done, f.l, r, 11) {
				scribble(one)
			}
			for i, one := range first {
				if !same(one[:cap(one)], kept[i]) {
					t.Fatalf("%d %v, %v: answer %d is shared with another one", f.done, f.l, r, i)
				}
			}
		}
	}
}

// text: all that is answered, as one text.
func text(done int, l []api.Range, r api.Range, n int) string {
	now, out, e := hole.Add(done, l, r)
	sacks, no := hole.Sacks(done, l, r.From, n)
	gaps, none := hole.Gaps(done, l)
	return fmt.Sprint(hole.May(done, l), now, out, e, sacks, no, gaps, none)
}

func TestAnswersHangOnArgumentsAlone(t *testing.T) {
	cases := append(forms(), noForms()...)
	var first []string
	for _, f := range cases {
		for i, r := range asked() {
			first = append(first, text(f.done, f.l, r, i-1))
		}
	}
	var hands sync.WaitGroup
	for range 4 {
		hands.Go(func() {
			at := 0
			for _, f := range cases {
				for i, r := range asked() {
					if got := text(f.done, f.l, r, i-1); got != first[at] {
						t.Errorf("%v, %v: %s, first %s", f, r, got, first[at])
					}
					at++
				}
			}
		})
	}
	hands.Wait()
}
