package rto_test

import (
	"fmt"
	"math"
	"strings"
	"sync"
	"testing"

	"packthread/api"
	"packthread/rto"
)

// The limits, written out: they must not move with the program.
const (
	longest = 1048576 // the greatest sample
	topSrtt = 8388608 // eight times that
	topVar  = 4194304 // four times that
	low     = 200     // the least wait
	high    = 60000   // the greatest wait
	backs   = 12      // times that a timer runs off
)

func isMay(t *testing.T, x api.Timer, want bool) {
	if got := rto.May(x); got != want {
		t.Helper()
		t.Fatalf("May(%v): %v, want %v", x, got, want)
	}
}

func isFirst(t *testing.T, sample int, want api.Timer, code api.Errno) {
	if x, e := rto.First(sample); x != want || e != code {
		t.Helper()
		t.Fatalf("First(%d): %v %d, want %v %d", sample, x, e, want, code)
	}
}

func isNext(t *testing.T, x api.Timer, sample int, want api.Timer, code api.Errno) {
	if y, e := rto.Next(x, sample); y != want || e != code {
		t.Helper()
		t.Fatalf("Next(%v, %d): %v %d, want %v %d", x, sample, y, e, want, code)
	}
}

func isBack(t *testing.T, x, want api.Timer, code api.Errno) {
	if y, e := rto.Back(x); y != want || e != code {
		t.Helper()
		t.Fatalf("Back(%v): %v %d, want %v %d", x, y, e, want, code)
	}
}

func timer(srtt, vary, wait, backs int) api.Timer {
	return api.Timer{Srtt: srtt, Var: vary, Wait: wait, Backs: backs}
}

// wait: what follows from the other two, told by shifts.
func wait(srtt, vary int) int {
	w := srtt>>3 + vary
	if w < low {
		return low
	}
	if w > high {
		return high
	}
	return w
}

// next: the timer behind one more sample, told case by case.
func next(x api.Timer, sample int) api.Timer {
	fault := sample - x.Srtt>>3
	far := fault
	if far < 0 {
		far = -far
	}
	srtt, vary := x.Srtt+fault, x.Var+far-x.Var>>2
	return timer(srtt, vary, wait(srtt, vary), 0)
}

// far: numbers that no field and no sample may be, some of which look small when bits are cut off.
func far() []int {
	return []int{
		topSrtt + 1, 2 * topSrtt, 1<<31 - 1, 1 << 31, 1<<31 + 300, 1<<32 - 1, 1 << 32, 1<<32 + 300, 1<<48 + 300,
		1 << 60, 1<<61 + 300, 1 << 62, 1<<62 + 300, math.MaxInt64 - 7, math.MaxInt64 - 1, math.MaxInt64,
		-200, -300, -high, -topVar, -topSrtt, -1 << 31, -1<<31 + 300, -1 << 32, -1<<32 + 300, -1 << 48, -1 << 60, -1 << 61,
		-1 << 62, -1<<62 + 300, math.MinInt64 / 8, math.MinInt64 / 2, math.MinInt64 + 300, math.MinInt64 + 1, math.MinInt64,
	}
}

// off: numbers that are not from least to greatest: just beyond these, and far.
func off(least, greatest int) []int {
	return append([]int{least - 1, least - 2, greatest + 1, greatest + 2, greatest + 300}, far()...)
}

// noSamples: what no sample is.
func noSamples() []int {
	return append([]int{-8, high - longest, topVar, topSrtt}, off(0, longest)...)
}

// Of each field the values at its bounds, and some between.
func srtts() []int {
	return []int{0, 1, 7, 8, 9, 15, 16, 100, 799, 800, 807, 808, longest - 1, longest, longest + 1, topSrtt - 9, topSrtt - 8, topSrtt - 7, topSrtt - 1, topSrtt}
}

func vars() []int {
	return []int{0, 1, 2, 3, 4, 5, 7, 8, 199, 200, 201, high - 1, high, high + 1, topVar - 5, topVar - 4, topVar - 3, topVar - 1, topVar}
}

func waits() []int {
	return []int{low, low + 1, 399, 400, high/2 - 1, high / 2, high/2 + 1, high - 1, high}
}

func samples() []int {
	return []int{0, 1, 2, 7, 8, 9, 99, 100, 101, low - 1, low, low + 1, high - 1, high, high + 1, longest - 1, longest}
}

// goods: timers that may be: all of the values above, one with another.
func goods() []api.Timer {
	var l []api.Timer
	for _, srtt := range srtts() {
		for _, vary := range vars() {
			for _, wait := range waits() {
				for _, n := range []int{0, 1, 6, backs - 1, backs} {
					l = append(l, timer(srtt, vary, wait, n))
				}
			}
		}
	}
	return l
}

// spoiled: x with one field each that may not be.
func spoiled(x api.Timer) []api.Timer {
	var l []api.Timer
	for _, n := range off(0, topSrtt) {
		l = append(l, timer(n, x.Var, x.Wait, x.Backs))
	}
	for _, n := range off(0, topVar) {
		l = append(l, timer(x.Srtt, n, x.Wait, x.Backs))
	}
	for _, n := range append(off(low, high), 0, 1, 100) {
		l = append(l, timer(x.Srtt, x.Var, n, x.Backs))
	}
	for _, n := range off(0, backs) {
		l = append(l, timer(x.Srtt, x.Var, x.Wait, n))
	}
	return l
}

// bads: timers that may not be: one field is spoiled, or more.
func bads() []api.Timer {
	l := []api.Timer{{}, timer(800, 200, 0, 0), timer(-1, -1, -1, -1), timer(0, 0, low-1, backs+1), timer(topSrtt+1, topVar+1, high+1, backs+1)}
	for _, x := range []api.Timer{
		timer(0, 0, low, 0), timer(topSrtt, topVar, high, backs), timer(800, 200, 300, 0), timer(880, 230, 680, 1),
		timer(800, 200, 300, backs), timer(0, topVar, low, backs), timer(topSrtt, 0, high, 0),
	} {
		l = append(l, spoiled(x)...)
	}
	for _, n := range far() {
		l = append(l, timer(n, n, n, n), timer(n, -n, low, 0), timer(800, n, -n, 0), timer(n, 200, 300, n))
	}
	return l
}

// P5.1: May.

func TestTimersThatMayBe(t *testing.T) {
	isMay(t, timer(800, 200, 300, 0), true)
	isMay(t, timer(880, 230, 680, 1), true)
	isMay(t, timer(0, 0, low, 0), true)
	isMay(t, timer(topSrtt, topVar, high, backs), true)
	for _, x := range goods() { // Wait need not be what the other two come to
		isMay(t, x, true)
	}
}

func TestTimersThatMayNotBe(t *testing.T) {
	isMay(t, api.Timer{}, false)
	for _, x := range bads() {
		isMay(t, x, false)
	}
}

func TestEachFieldAboutItsBounds(t *testing.T) {
	within := func(n, least, greatest int) bool { return n >= least && n <= greatest }
	for d := -300; d <= 300; d++ {
		isMay(t, timer(d, 200, 300, 3), within(d, 0, topSrtt))
		isMay(t, timer(topSrtt+d, 200, 300, 3), d <= 0)
		isMay(t, timer(800, d, 300, 3), within(d, 0, topVar))
		isMay(t, timer(800, topVar+d, 300, 3), d <= 0)
		isMay(t, timer(800, 200, d, 3), within(d, low, high))
		isMay(t, timer(800, 200, high+d, 3), d <= 0)
		isMay(t, timer(800, 200, 300, d), within(d, 0, backs))
	}
	for n := range topSrtt + 1 {
		isMay(t, timer(n, 200, 300, 3), true)
		isMay(t, timer(800, n, 300, 3), n <= topVar)
	}
	for n := range high + 1 {
		isMay(t, timer(800, 200, n, 3), n >= low)
	}
}

// P5.1: First.

func TestFirst(t *testing.T) {
	isFirst(t, 0, timer(0, 0, low, 0), api.OK)
	isFirst(t, 1, timer(8, 2, low, 0), api.OK)
	isFirst(t, 66, timer(528, 132, low, 0), api.OK) // 198 would be too short
	isFirst(t, 67, timer(536, 134, 201, 0), api.OK)
	isFirst(t, 100, timer(800, 200, 300, 0), api.OK)
	isFirst(t, 19999, timer(159992, 39998, 59997, 0), api.OK)
	isFirst(t, 20000, timer(160000, 40000, 60000, 0), api.OK)
	isFirst(t, 20001, timer(160008, 40002, high, 0), api.OK) // 60003 would be too long
	isFirst(t, 300000, timer(2400000, 600000, high, 0), api.OK)
	isFirst(t, longest, timer(8388608, 2097152, high, 0), api.OK)
}

func TestFirstOfAllSamples(t *testing.T) {
	for n := range longest + 1 {
		isFirst(t, n, timer(8*n, 2*n, wait(8*n, 2*n), 0), api.OK)
	}
}

func TestFirstOfNoSamples(t *testing.T) {
	for _, n := range noSamples() {
		isFirst(t, n, api.Timer{}, api.ErrRange)
	}
}

// P5.2: Next.

func TestNext(t *testing.T) {
	isNext(t, timer(800, 200, 300, 0), 180, timer(880, 230, 340, 0), api.OK) // the fault is 80
	isNext(t, timer(800, 200, 300, 0), 100, timer(800, 150, 250, 0), api.OK) // 0
	isNext(t, timer(800, 200, 300, 0), 99, timer(799, 151, 250, 0), api.OK)  // -1: the eighth is 99 then
	isNext(t, timer(800, 200, 300, 0), 101, timer(801, 151, 251, 0), api.OK)
	isNext(t, timer(800, 200, 300, 0), 0, timer(700, 250, 337, 0), api.OK) // -100
	isNext(t, timer(800, 200, 300, 0), 1100, timer(1800, 1150, 1375, 0), api.OK)
	isNext(t, timer(0, 0, low, 0), 0, timer(0, 0, low, 0), api.OK)
	isNext(t, timer(0, 0, low, 0), 1, timer(1, 1, low, 0), api.OK)
}

func TestEighthsAndQuartersAreRoundedDown(t *testing.T) {
	isNext(t, timer(807, 200, 300, 0), 100, timer(807, 150, 250, 0), api.OK) // an eighth of 807 is 100
	isNext(t, timer(808, 200, 300, 0), 100, timer(807, 151, 251, 0), api.OK)
	isNext(t, timer(799, 200, 300, 0), 100, timer(800, 151, 251, 0), api.OK)
	isNext(t, timer(801, 0, 300, 0), 100, timer(801, 0, low, 0), api.OK)
	isNext(t, timer(7, 0, 300, 0), 0, timer(7, 0, low, 0), api.OK)
	isNext(t, timer(8, 0, 300, 0), 0, timer(7, 1, low, 0), api.OK)
	isNext(t, timer(800, 203, 300, 0), 100, timer(800, 153, 253, 0), api.OK) // a quarter of 203 is 50
	isNext(t, timer(800, 204, 300, 0), 100, timer(800, 153, 253, 0), api.OK)
	isNext(t, timer(800, 3, 300, 0), 100, timer(800, 3, low, 0), api.OK)
	isNext(t, timer(800, 4, 300, 0), 100, timer(800, 3, low, 0), api.OK)
	isNext(t, timer(4007, 3, 300, 0), 500, timer(4007, 3, 503, 0), api.OK) // the wait's eighth, too: 500, not 501
	isNext(t, timer(7, 201, 300, 0), 0, timer(7, 151, low, 0), api.OK)
	for srtt := range 8 * 40 {
		for vary := range 30 {
			for sample := range 45 {
				x := timer(srtt, vary, 300, 2)
				isNext(t, x, sample, next(x, sample), api.OK)
				x = timer(8*500+srtt, 4*90+vary, 300, 2) // waits are between their bounds there
				isNext(t, x, 480+2*sample, next(x, 480+2*sample), api.OK)
			}
		}
	}
}

func TestNextWaitsWithinBounds(t *testing.T) {
	for _, c := range []struct{ srtt, vary, wait int }{ // with a sample that makes no fault
		{8 * 100, 132, 200},        // 100 and 99 would be too short
		{8 * 100, 133, 200},        // 100 and 100 is just enough
		{8 * 100, 134, 201},        //
		{8*100 + 7, 132, 200},      // the eighth is rounded down first
		{8 * 59000, 1332, 59999},   // a quarter of 1332 is 333
		{8 * 59000, 1333, high},    // 1000 and 59000 is just the greatest
		{8 * 59000, 1334, high},    // 60001 would be too long
		{8*59000 + 7, 1332, 59999}, //
		{8 * 60000, 0, high},
		{8 * 60001, 0, high},
		{topSrtt, topVar, high},
	} {
		for _, wait := range waits() { // how long one waited is not looked at
			x := timer(c.srtt, c.vary, wait, 4)
			isNext(t, x, c.srtt/8, timer(c.srtt, c.vary-c.vary/4, c.wait, 0), api.OK)
		}
	}
}

func TestNextOfTimersAtAllBounds(t *testing.T) {
	for _, x := range goods() {
		for _, n := range samples() {
			isNext(t, x, n, next(x, n), api.OK)
		}
	}
	isNext(t, timer(topSrtt, topVar, high, backs), longest, timer(topSrtt, 3145728, high, 0), api.OK)
	isNext(t, timer(topSrtt, topVar, high, backs), 0, timer(7340032, topVar, high, 0), api.OK)
	isNext(t, timer(0, topVar, low, backs), longest, timer(longest, topVar, high, 0), api.OK)
	isNext(t, timer(0, 0, low, backs), longest, timer(longest, longest, high, 0), api.OK)
	isNext(t, timer(topSrtt-1, topVar, high, 0), longest, timer(topSrtt, 3145729, high, 0), api.OK)
}

func TestNextBeginsBacksAnew(t *testing.T) {
	for n := range backs + 1 {
		isNext(t, timer(880, 230, 680, n), 110, timer(880, 173, 283, 0), api.OK)
	}
}

func TestNextOfTimersThatMayNotBe(t *testing.T) {
	isNext(t, api.Timer{}, 1, api.Timer{}, api.ErrForm)
	for _, x := range bads() {
		for _, n := range []int{0, 100, longest} {
			isNext(t, x, n, api.Timer{}, api.ErrForm)
		}
	}
}

func TestNextOfNoSamples(t *testing.T) {
	for _, n := range noSamples() {
		for _, x := range []api.Timer{timer(800, 200, 300, 0), timer(0, 0, low, 0), timer(topSrtt, topVar, high, backs)} {
			isNext(t, x, n, api.Timer{}, api.ErrRange)
		}
	}
}

func TestNextTellsTheTimerAheadOfTheSample(t *testing.T) {
	for _, x := range bads() {
		for _, n := range []int{-1, longest + 1, math.MaxInt64, math.MinInt64} {
			isNext(t, x, n, api.Timer{}, api.ErrForm)
		}
	}
}

// P5.3: Back.

func TestBack(t *testing.T) {
	isBack(t, timer(880, 230, 340, 0), timer(880, 230, 680, 1), api.OK)
	isBack(t, timer(880, 230, 680, 1), timer(880, 230, 1360, 2), api.OK)
	isBack(t, timer(0, 0, low, 0), timer(0, 0, 400, 1), api.OK)
	isBack(t, timer(0, 0, 29999, 0), timer(0, 0, 59998, 1), api.OK)
	isBack(t, timer(0, 0, 30000, 0), timer(0, 0, high, 1), api.OK)
	isBack(t, timer(0, 0, 30001, 0), timer(0, 0, high, 1), api.OK)
	isBack(t, timer(0, 0, high, 0), timer(0, 0, high, 1), api.OK)
	isBack(t, timer(topSrtt, topVar, high, backs-1), timer(topSrtt, topVar, high, backs), api.OK)
}

func TestBackOfAllWaits(t *testing.T) {
	for wait := low; wait <= high; wait++ {
		for n := range backs {
			isBack(t, timer(807, 203, wait, n), timer(807, 203, min(wait+wait, high), n+1), api.OK)
		}
	}
}

func TestBackOfFullTimers(t *testing.T) {
	for _, x := range goods() {
		if x.Backs == backs {
			isBack(t, x, api.Timer{}, api.ErrFull)
		} else {
			isBack(t, x, timer(x.Srtt, x.Var, min(x.Wait+x.Wait, high), x.Backs+1), api.OK)
		}
	}
}

func TestBackOfTimersThatMayNotBe(t *testing.T) {
	isBack(t, api.Timer{}, api.Timer{}, api.ErrForm)
	for _, x := range bads() { // of some the Backs are MaxBacks, too: this is told ahead of that
		isBack(t, x, api.Timer{}, api.ErrForm)
	}
	for _, x := range spoiled(timer(800, 200, 300, backs)) {
		isBack(t, x, api.Timer{}, api.ErrForm)
	}
}

// Timers that many samples and backs led to.

func TestBackOffToTheEnd(t *testing.T) {
	x, _ := rto.First(100)
	for i, wait := range []int{600, 1200, 2400, 4800, 9600, 19200, 38400, high, high, high, high, high} {
		want := timer(800, 200, wait, i+1)
		isBack(t, x, want, api.OK)
		x = want
	}
	isBack(t, x, api.Timer{}, api.ErrFull)
	isNext(t, x, 100, timer(800, 150, 250, 0), api.OK) // it can back off again then
	isBack(t, timer(800, 150, 250, 0), timer(800, 150, 500, 1), api.OK)
}

func TestSamplesOneBehindAnother(t *testing.T) {
	x, _ := rto.First(100)
	for _, step := range []struct {
		sample int
		want   api.Timer
	}{
		{180, timer(880, 230, 340, 0)},
		{90, timer(860, 193, 300, 0)},   // the fault is -20
		{500, timer(1253, 538, 694, 0)}, // 393
		{0, timer(1097, 560, 697, 0)},   // -156
		{longest, timer(1049536, 1048859, high, 0)},
		{0, timer(918344, 917837, high, 0)}, // -131192
	} {
		isNext(t, x, step.sample, step.want, api.OK)
		x = step.want
	}
}

func TestLongWays(t *testing.T) {
	seed := uint32(7)
	chance := func(n int) int {
		seed = seed*1664525 + 1013904223
		return int(seed>>8) % n
	}
	for way := range 200 {
		x, _ := rto.First(chance(1 + way*way))
		for range 2000 {
			if chance(3) == 0 && x.Backs < backs {
				want := timer(x.Srtt, x.Var, min(x.Wait+x.Wait, high), x.Backs+1)
				isBack(t, x, want, api.OK)
				x = want
				continue
			}
			n := chance(1 + way*way)
			if chance(20) == 0 {
				n = samples()[chance(len(samples()))]
			}
			want := next(x, n)
			isNext(t, x, n, want, api.OK)
			isMay(t, want, true) // what is answered may be handed in again
			x = want
		}
	}
}

func TestSameSamplesComeToALittleLonger(t *testing.T) {
	for _, n := range append(samples(), 150, 196, 197, 198, 1000, 59996, 59997, 59998) {
		first, _ := rto.First(n)
		for _, x := range []api.Timer{first, timer(0, 0, low, 0), timer(topSrtt, topVar, high, backs), timer(800, 200, 300, 5)} {
			for range 300 {
				var code api.Errno
				if x, code = rto.Next(x, n); code != api.OK {
					t.Fatalf("%d again and again: %v %d", n, x, code)
				}
			}
			least, most := min(max(n, low), high), min(max(n+3, low), high)
			if x.Srtt/8 != n || x.Wait < least || x.Wait > most {
				t.Fatalf("%d again and again: %v", n, x)
			}
		}
		want := timer(8*n, min(2*n, 3), min(max(n+min(2*n, 3), low), high), 0)
		x := first
		for range 60 {
			x, _ = rto.Next(x, n)
		}
		if x != want {
			t.Fatalf("%d from the first one on: %v, want %v", n, x, want)
		}
	}
}

// What holds everywhere.

func TestNumbersBeyondAllBounds(t *testing.T) {
	for _, a := range far() {
		for _, b := range append(far(), 0, 1, 300) {
			for _, x := range []api.Timer{timer(a, b, a, b), timer(a, a, b, b), timer(b, a, 300, 1), timer(b, b, a, b), timer(300, 300, b, a)} {
				isMay(t, x, false)
				isBack(t, x, api.Timer{}, api.ErrForm)
				isNext(t, x, 100, api.Timer{}, api.ErrForm)
				isNext(t, x, a, api.Timer{}, api.ErrForm)
				isNext(t, x, -b, api.Timer{}, api.ErrForm)
			}
		}
	}
}

// answers: what all calls answer, as one text.
func answers() string {
	var s strings.Builder
	for _, n := range append(samples(), noSamples()...) {
		x, code := rto.First(n)
		fmt.Fprintln(&s, x, code)
	}
	for i, x := range append(goods(), bads()...) {
		n := samples()[i%len(samples())]
		y, code := rto.Next(x, n)
		z, again := rto.Back(x)
		fmt.Fprintln(&s, rto.May(x), y, code, z, again)
	}
	return s.String()
}

func TestAnswersHangOnArgumentsAlone(t *testing.T) {
	want := answers()
	var all sync.WaitGroup
	for range 4 {
		all.Go(func() {
			if answers() != want {
				t.Error("asked again, another answer")
			}
		})
	}
	all.Wait()
}
