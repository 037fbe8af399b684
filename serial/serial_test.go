package serial_test

import (
	"math"
	"sync"
	"testing"

	"packthread/api"
	"packthread/serial"
)

// The numbers that the tests count on, written out: they must not move with the program.
const (
	round = 65536
	half  = 32768
	last  = 65535
	far   = 1048576 // the last place that Near looks for
)

// bases: serial numbers at the bounds, at half, and between.
func bases() []int {
	return []int{0, 1, 2, 255, 256, 257, 12345, 32766, half - 1, half, half + 1, 32770, 54321, 65533, 65534, last}
}

// noSerials: numbers that are no serial ones, some of which look like one when bits are cut off.
func noSerials() []int {
	return []int{
		-1, -2, -half, -half - 1, -last, -round, -round - 1,
		round, round + 1, round + half, 2*round - 1, 2 * round, far,
		1<<31 - 1, 1 << 31, 1<<31 + 7, 1<<32 - 1, 1 << 32, 1<<32 + 7, -1 << 31, -1<<31 - 1, -1 << 32, -1<<32 + 7,
		1<<48 + 7, 1 << 62, -1 << 62, -1<<62 + 7,
		math.MaxInt64, math.MaxInt64 - 1, math.MaxInt64 - last, math.MinInt64, math.MinInt64 + 1, math.MinInt64 + round,
	}
}

// off: numbers that are not from low to high.
func off(low, high int) []int {
	l := []int{low - 1, low - 2, high + 1, high + 2}
	for _, n := range append(noSerials(), half, last, 2*far) {
		if n < low || n > high {
			l = append(l, n)
		}
	}
	return l
}

// next: the number behind s, told without a remainder.
func next(s int) int {
	if s == last {
		return 0
	}
	return s + 1
}

func isAdd(t *testing.T, s, n, want int, code api.Errno) {
	if got, e := serial.Add(s, n); got != want || e != code {
		t.Helper()
		t.Fatalf("Add(%d, %d): %d %d, want %d %d", s, n, got, e, want, code)
	}
}

func isFar(t *testing.T, a, b, want int, code api.Errno) {
	if got, e := serial.Far(a, b); got != want || e != code {
		t.Helper()
		t.Fatalf("Far(%d, %d): %d %d, want %d %d", a, b, got, e, want, code)
	}
}

func isOrder(t *testing.T, a, b, want int, code api.Errno) {
	if got, e := serial.Order(a, b); got != want || e != code {
		t.Helper()
		t.Fatalf("Order(%d, %d): %d %d, want %d %d", a, b, got, e, want, code)
	}
}

func isWithin(t *testing.T, s, low, n int, want bool, code api.Errno) {
	if got, e := serial.Within(s, low, n); got != want || e != code {
		t.Helper()
		t.Fatalf("Within(%d, %d, %d): %v %d, want %v %d", s, low, n, got, e, want, code)
	}
}

func isNear(t *testing.T, s, place, want int, code api.Errno) {
	if got, e := serial.Near(s, place); got != want || e != code {
		t.Helper()
		t.Fatalf("Near(%d, %d): %d %d, want %d %d", s, place, got, e, want, code)
	}
}

// P1.1: which numbers are serial ones.

func TestEverySerialNumberIsOne(t *testing.T) {
	for s := 0; s < round; s++ {
		isAdd(t, s, 0, s, api.OK)
		isFar(t, s, s, 0, api.OK)
		isOrder(t, s, s, 0, api.OK)
		isWithin(t, s, s, 1, true, api.OK)
		isNear(t, s, s, s, api.OK)
	}
}

func TestBehindTheLastComesTheFirst(t *testing.T) {
	isAdd(t, last, 1, 0, api.OK)
	isAdd(t, 65534, 1, last, api.OK)
	isFar(t, last, 0, 1, api.OK)
	isFar(t, 0, last, last, api.OK)
	isOrder(t, last, 0, -1, api.OK)
	isOrder(t, 0, last, 1, api.OK)
	isWithin(t, 0, last, 2, true, api.OK)
	isWithin(t, 0, last, 1, false, api.OK)
}

func TestNoSerialNumberIsRefused(t *testing.T) {
	for _, bad := range noSerials() {
		for _, good := range bases() {
			isAdd(t, bad, good%half, 0, api.ErrRange)
			isFar(t, bad, good, 0, api.ErrRange)
			isFar(t, good, bad, 0, api.ErrRange)
			isOrder(t, bad, good, 0, api.ErrRange)
			isOrder(t, good, bad, 0, api.ErrRange)
			isWithin(t, bad, good, round, false, api.ErrRange)
			isWithin(t, bad, good, 0, false, api.ErrRange)
			isWithin(t, good, bad, round, false, api.ErrRange)
			isWithin(t, good, bad, 0, false, api.ErrRange)
			isNear(t, bad, good, 0, api.ErrRange)
		}
	}
}

func TestManyWrongAtOnce(t *testing.T) {
	for _, a := range noSerials() {
		for _, b := range noSerials() {
			isFar(t, a, b, 0, api.ErrRange)
			isOrder(t, a, b, 0, api.ErrRange)
			isWithin(t, a, b, 7, false, api.ErrRange)
			isWithin(t, a, b, round+1, false, api.ErrRange)
			isWithin(t, a, b, math.MinInt64, false, api.ErrRange)
		}
		for _, n := range off(0, half-1) {
			isAdd(t, a, n, 0, api.ErrRange)
		}
		for _, n := range off(0, round) {
			isWithin(t, a, 7, n, false, api.ErrRange)
			isWithin(t, 7, a, n, false, api.ErrRange)
		}
		for _, place := range off(0, far) {
			isNear(t, a, place, 0, api.ErrRange)
		}
	}
}

// P1.2: Add, Far, Order.

func TestAddFarOrderStepByStep(t *testing.T) {
	for _, a := range bases() {
		b := a
		for n := 0; n < round; n, b = n+1, next(b) {
			if n < half {
				isAdd(t, a, n, b, api.OK)
			} else {
				isAdd(t, a, n, 0, api.ErrRange)
			}
			isFar(t, a, b, n, api.OK)
			isOrder(t, a, b, orderOf(n), api.OK)
			isOrder(t, b, a, orderOf(back(n)), api.OK)
		}
	}
}

// back: how far it is back where it is n there.
func back(n int) int {
	if n == 0 {
		return 0
	}
	return round - n
}

// orderOf: the order of two that are so far from each other.
func orderOf(n int) int {
	switch {
	case n == 0:
		return 0
	case n < half:
		return -1
	case n == half:
		return 2
	}
	return 1
}

func TestAddAtItsBounds(t *testing.T) {
	isAdd(t, 0, 0, 0, api.OK)
	isAdd(t, 0, 32767, 32767, api.OK)
	isAdd(t, 1, 32767, 32768, api.OK)
	isAdd(t, 32768, 32767, 65535, api.OK)
	isAdd(t, 32769, 32767, 0, api.OK)
	isAdd(t, 65535, 32767, 32766, api.OK)
	for _, s := range bases() {
		for _, n := range off(0, half-1) {
			isAdd(t, s, n, 0, api.ErrRange)
		}
	}
}

func TestOrderAtHalf(t *testing.T) {
	isOrder(t, 0, 32767, -1, api.OK)
	isOrder(t, 0, 32768, 2, api.OK)
	isOrder(t, 32768, 0, 2, api.OK)
	isOrder(t, 0, 32769, 1, api.OK)
	isOrder(t, 65535, 32766, -1, api.OK)
	isOrder(t, 65535, 32767, 2, api.OK)
	isOrder(t, 32767, 65535, 2, api.OK)
	isOrder(t, 65535, 32768, 1, api.OK)
	isOrder(t, 5, 4, 1, api.OK)
	isOrder(t, 4, 5, -1, api.OK)
}

// P1.3: Within, Near.

func TestWithinStepByStep(t *testing.T) {
	for _, low := range bases() {
		s := low
		for at := 0; at < round; at, s = at+1, next(s) {
			isWithin(t, s, low, at, false, api.OK)
			isWithin(t, s, low, at+1, true, api.OK)
		}
	}
}

func TestWithinNoneAndAll(t *testing.T) {
	for _, low := range bases() {
		for s := 0; s < round; s++ {
			isWithin(t, s, low, 0, false, api.OK)
			isWithin(t, s, low, 65536, true, api.OK)
		}
		before := (low + last) % round
		isWithin(t, before, low, 65535, false, api.OK)
	}
}

func TestWithinSomeOfMany(t *testing.T) {
	for _, low := range bases() {
		for _, n := range []int{1, 2, 3, 255, 256, half - 1, half, half + 1, last - 1, last} {
			s := low
			for at := 0; at < round; at, s = at+1, next(s) {
				isWithin(t, s, low, n, at < n, api.OK)
			}
		}
	}
}

func TestWithinOfNoSuchCount(t *testing.T) {
	for _, low := range bases() {
		for _, n := range off(0, round) {
			isWithin(t, low, low, n, false, api.ErrRange)
			isWithin(t, (low+9)%round, low, n, false, api.ErrRange)
			isWithin(t, (low+last)%round, low, n, false, api.ErrRange)
		}
	}
}

// nearest: all places of s are gone through from below, so of two that are as near the lower one stays.
func nearest(s, place int) int {
	best := s - 2*round
	for p := best; p <= far+2*round; p += round {
		if gap(p, place) < gap(best, place) {
			best = p
		}
	}
	return best
}

func gap(a, b int) int {
	if a < b {
		return b - a
	}
	return a - b
}

func TestNearOfEverySerialNumber(t *testing.T) {
	places := []int{
		0, 1, half - 1, half, half + 1, last, round, round + 1, round + half - 1, round + half, round + half + 1,
		2*round - 1, 2 * round, 123456, 777777, far - round - 1, far - half, far - 1, far,
	}
	for _, place := range places {
		for s := 0; s < round; s++ {
			isNear(t, s, place, nearest(s, place), api.OK)
		}
	}
}

func TestNearOfPlacesAllAlong(t *testing.T) {
	for _, s := range bases() {
		for place := 0; place <= far; place += 131 {
			isNear(t, s, place, nearest(s, place), api.OK)
		}
	}
}

func TestNearBelowNothing(t *testing.T) {
	isNear(t, 0, 0, 0, api.OK)
	isNear(t, 65535, 0, -1, api.OK)
	isNear(t, 32769, 0, -32767, api.OK)
	isNear(t, 32767, 0, 32767, api.OK)
	isNear(t, 65535, 32766, -1, api.OK)
	isNear(t, 65535, 32767, -1, api.OK)
	isNear(t, 65535, 32768, 65535, api.OK)
}

func TestNearOfTwoAsNear(t *testing.T) {
	isNear(t, 32768, 0, -32768, api.OK)
	isNear(t, 32769, 1, -32767, api.OK)
	isNear(t, 0, 32768, 0, api.OK)
	isNear(t, 32768, 65536, 32768, api.OK)
	isNear(t, 0, 98304, 65536, api.OK)
	isNear(t, 32768, 1048576, 1015808, api.OK)
}

func TestNearAtTheLastPlace(t *testing.T) {
	isNear(t, 0, 1048576, 1048576, api.OK)
	isNear(t, 1, 1048576, 1048577, api.OK)
	isNear(t, 32767, 1048576, 1081343, api.OK)
	isNear(t, 32769, 1048576, 1015809, api.OK)
	isNear(t, 65535, 1048576, 1048575, api.OK)
}

func TestNearOfNoSuchPlace(t *testing.T) {
	for _, s := range bases() {
		for _, place := range off(0, far) {
			isNear(t, s, place, 0, api.ErrRange)
		}
	}
}

// What holds everywhere: what a call answers hangs on its arguments alone.

type answers struct {
	add, far, order, near int
	within                bool
	codes                 [5]api.Errno
}

func ask(a, b int) (r answers) {
	r.add, r.codes[0] = serial.Add(a, b)
	r.far, r.codes[1] = serial.Far(a, b)
	r.order, r.codes[2] = serial.Order(a, b)
	r.within, r.codes[3] = serial.Within(a, 7, b)
	r.near, r.codes[4] = serial.Near(a, b)
	return r
}

func TestAnswersHangOnArgumentsAlone(t *testing.T) {
	numbers := append(bases(), noSerials()...)
	first := map[[2]int]answers{}
	for _, a := range numbers {
		for _, b := range numbers {
			first[[2]int{a, b}] = ask(a, b)
		}
	}
	var hands sync.WaitGroup
	for range 4 {
		hands.Go(func() {
			for pair, want := range first {
				if got := ask(pair[0], pair[1]); got != want {
					t.Errorf("%v: %v, first %v", pair, got, want)
				}
			}
		})
	}
	hands.Wait()
}
