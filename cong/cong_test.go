package cong_test

import (
	"fmt"
	"math"
	"slices"
	"sync"
	"testing"

	"packthread/api"
	"packthread/cong"
)

// The limits, the kinds and the numbers of errors, written out: they must not move with the program.
const (
	widest = 64
	events = 300

	kindAcked = 1
	kindAgain = 2
	kindLate  = 3

	ok       = api.Errno(0)
	errSize  = api.Errno(1)
	errRange = api.Errno(2)
	errKind  = api.Errno(3)
)

func acked(n int) api.Signal { return api.Signal{Kind: kindAcked, Count: n} }

func again() api.Signal { return api.Signal{Kind: kindAgain} }

func late() api.Signal { return api.Signal{Kind: kindLate} }

func width(window, slow, again int) api.Width {
	return api.Width{Window: window, Slow: slow, Again: again}
}

// start: how wide it is ahead of all signals.
func start() api.Width { return width(1, widest, 0) }

// times: one signal, so many times.
func times(n int, s api.Signal) []api.Signal {
	return slices.Repeat([]api.Signal{s}, n)
}

// isPlay: these signals are played as they should be, and so is each beginning of them.
func isPlay(t *testing.T, l []api.Signal, want ...api.Width) {
	t.Helper()
	for n := range len(l) + 1 {
		if got, code := cong.Play(l[:n]); code != ok || !slices.Equal(got, want[:n]) {
			t.Fatalf("Play(%v): %v %d, want %v 0", l[:n], got, code, want[:n])
		}
	}
}

// isCode: these signals are refused, and nothing is told beside that.
func isCode(t *testing.T, l []api.Signal, want api.Errno) {
	t.Helper()
	if got, code := cong.Play(l); code != want || len(got) != 0 {
		t.Fatalf("Play(%v): %v %d, want [] %d", l, got, code, want)
	}
}

// isLast: how wide it is behind the last one of these.
func isLast(t *testing.T, l []api.Signal, want api.Width) {
	t.Helper()
	got, code := cong.Play(l)
	if code != ok || len(got) != len(l) || got[len(got)-1] != want {
		t.Fatalf("Play(%v): %v %d, want %v at the end", l, got, code, want)
	}
}

// isModel: these signals are played as the model plays them.
func isModel(t *testing.T, l []api.Signal) {
	t.Helper()
	if got, code := cong.Play(l); code != ok || !slices.Equal(got, model(l)) {
		t.Fatalf("Play(%v): %v %d, want %v 0", l, got, code, model(l))
	}
}

// model: how wide it is behind each signal, told in leaps and not one by one.
func model(l []api.Signal) []api.Width {
	var out []api.Width
	w := start()
	for _, s := range l {
		switch s.Kind {
		case kindAcked:
			w = leap(w, s.Count)
		case kindAgain:
			w = width(half(w.Window), half(w.Window), 0)
		case kindLate:
			w = width(1, half(w.Window), 0)
		}
		out = append(out, w)
	}
	return out
}

// leap: up to Slow at once, then a window at once.
func leap(w api.Width, n int) api.Width {
	if fast := w.Slow - w.Window; fast > 0 {
		if n <= fast {
			return width(w.Window+n, w.Slow, w.Again)
		}
		w.Window, n = w.Slow, n-fast
	}
	n += w.Again
	for n >= w.Window {
		n -= w.Window
		if w.Window != widest {
			w.Window++
		}
	}
	return width(w.Window, w.Slow, n)
}

func half(window int) int {
	if window < 4 {
		return 2
	}
	return window >> 1
}

// upTo: signals behind which Window is so wide, and Slow MaxWide.
func upTo(window int) []api.Signal {
	if window == 1 {
		return nil
	}
	return []api.Signal{acked(window - 1)}
}

// with: these signals behind those, in new memory.
func with(l []api.Signal, more ...api.Signal) []api.Signal {
	return append(slices.Clone(l), more...)
}

// far: numbers beyond all bounds, some of which look small when bits are cut off.
func far() []int {
	return []int{
		100, 128, 255, 256, 257, 258, 320, 65535, 65536, 65537, 1<<31 - 1, 1 << 31, 1<<31 + 1, 1<<32 - 1, 1 << 32, 1<<32 + 1,
		1<<32 + 2, 1<<32 + 64, 1<<48 + 1, 1 << 62, 1<<62 + 3, math.MaxInt64 - 63, math.MaxInt64 - 1, math.MaxInt64,
		-1, -2, -3, -63, -64, -65, -128, -255, -256, -65535, -1 << 31, -1<<31 + 1, -1<<32 + 1, -1 << 32, -1<<48 + 1, -1 << 62,
		-1<<62 + 3, math.MinInt64 + 64, math.MinInt64 + 3, math.MinInt64 + 1, math.MinInt64,
	}
}

func noCounts() []int { return append([]int{0, widest + 1, widest + 2, 2 * widest}, far()...) }

func noKinds() []int { return append([]int{0, 4, 5, 6, 8, 16, widest}, far()...) }

// P6.1: at first.

func TestNoSignalAtAll(t *testing.T) {
	isPlay(t, nil)
	isPlay(t, []api.Signal{})
	isPlay(t, make([]api.Signal, 0, 5))
}

func TestAtFirst(t *testing.T) {
	isPlay(t, []api.Signal{acked(1)}, width(2, 64, 0))
	isPlay(t, []api.Signal{acked(9)}, width(10, 64, 0))
	isPlay(t, []api.Signal{again()}, width(2, 2, 0))
	isPlay(t, []api.Signal{late()}, width(1, 2, 0))
}

func TestOneBehindAnother(t *testing.T) {
	isPlay(t, []api.Signal{acked(9), again(), acked(4), acked(2), late(), acked(3)},
		width(10, 64, 0), width(5, 5, 0), width(5, 5, 4), width(6, 5, 1), width(1, 3, 0), width(3, 3, 1))
	isPlay(t, []api.Signal{acked(19), late(), acked(8), acked(1), acked(1), again(), acked(5), again(), late()},
		width(20, 64, 0), width(1, 10, 0), width(9, 10, 0), width(10, 10, 0), width(10, 10, 1),
		width(5, 5, 0), width(6, 5, 0), width(3, 3, 0), width(1, 2, 0))
}

// P6.1: Acked.

func TestAckedBelowSlow(t *testing.T) {
	for n := 1; n < widest; n++ {
		isPlay(t, []api.Signal{acked(n)}, width(1+n, widest, 0))
	}
	l, want := times(widest-1, acked(1)), []api.Width(nil)
	for n := range l {
		want = append(want, width(2+n, widest, 0))
	}
	isPlay(t, l, want...)
}

func TestAckedAboutSlow(t *testing.T) {
	low := []api.Signal{acked(9), late()} // Window is 1, Slow 5
	for n, want := range []api.Width{
		1: width(2, 5, 0), 2: width(3, 5, 0),
		3: width(4, 5, 0), // just below
		4: width(5, 5, 0), // at Slow
		5: width(5, 5, 1), 6: width(5, 5, 2), 8: width(5, 5, 4),
		9:  width(6, 5, 0), // above
		10: width(6, 5, 1), 14: width(6, 5, 5), 15: width(7, 5, 0), 16: width(7, 5, 1), 21: width(7, 5, 6), 22: width(8, 5, 0),
	} {
		if want == (api.Width{}) {
			continue
		}
		isLast(t, with(low, acked(n)), want) // within one signal
		isLast(t, with(low, times(n, acked(1))...), want)
		for k := 1; k < n; k++ {
			isLast(t, with(low, acked(k), acked(n-k)), want)
		}
	}
	isPlay(t, with(low, acked(3), acked(1), acked(1), acked(3), acked(1), acked(1)),
		width(10, 64, 0), width(1, 5, 0), width(4, 5, 0), width(5, 5, 0), width(5, 5, 1), width(5, 5, 4), width(6, 5, 0), width(6, 5, 1))
}

func TestAckedAtTheLeastSlow(t *testing.T) {
	isPlay(t, with([]api.Signal{late()}, times(8, acked(1))...),
		width(1, 2, 0), width(2, 2, 0), width(2, 2, 1), width(3, 2, 0), width(3, 2, 1), width(3, 2, 2), width(4, 2, 0), width(4, 2, 1), width(4, 2, 2))
	isPlay(t, []api.Signal{late(), acked(64)}, width(1, 2, 0), width(11, 2, 9)) // 1, and 2 to 10, are 55
}

func TestAgainJustBelowWindow(t *testing.T) {
	for window := 4; window <= widest; window++ { // whatever Window at Slow
		n := window / 2
		l := with(upTo(window), again())
		isLast(t, l, width(n, n, 0))
		isLast(t, with(l, acked(n-1)), width(n, n, n-1))
		isLast(t, with(l, acked(n)), width(n+1, n, 0))
		isLast(t, with(l, acked(n+1)), width(n+1, n, 1))
		isLast(t, with(l, acked(n-1), acked(1)), width(n+1, n, 0))
		isLast(t, with(l, acked(n-1), acked(2)), width(n+1, n, 1))
		isLast(t, with(l, acked(n-1), acked(1), acked(n)), width(n+1, n, n)) // it takes one more now
		isLast(t, with(l, acked(n-1), acked(1), acked(n+1)), width(n+2, n, 0))
	}
}

func TestWindowStaysAtTheWidest(t *testing.T) {
	top := []api.Signal{acked(63)}
	isLast(t, top, width(64, 64, 0))
	isPlay(t, []api.Signal{acked(64)}, width(64, 64, 1)) // 63 lead there, and one is counted
	isPlay(t, with(top, acked(1), acked(62), acked(1), acked(1)),
		width(64, 64, 0), width(64, 64, 1), width(64, 64, 63), width(64, 64, 0), width(64, 64, 1))
	isPlay(t, with(top, acked(64), acked(63), acked(2), acked(64)),
		width(64, 64, 0), width(64, 64, 0), width(64, 64, 63), width(64, 64, 1), width(64, 64, 1))
	for n := range widest { // again and again
		isLast(t, with(with(top, times(200, acked(64))...), acked(n+1)), width(64, 64, (n+1)%64))
	}
}

func TestWindowStaysAtTheWidestAboveSlow(t *testing.T) {
	l := []api.Signal{acked(63), again()} // Window and Slow are 32
	for n := 32; n < widest; n++ {
		l = append(l, acked(n))
		isLast(t, l, width(n+1, 32, 0))
	}
	isLast(t, with(l, acked(63)), width(64, 32, 63))
	isLast(t, with(l, acked(64)), width(64, 32, 0))
	isLast(t, with(l, acked(63), acked(1)), width(64, 32, 0))
	isLast(t, with(l, acked(63), acked(64)), width(64, 32, 63))
	isLast(t, with(l, again()), width(32, 32, 0))
	isLast(t, with(l, acked(9), late()), width(1, 32, 0))
	last := len(l) - 1
	isLast(t, with(l[:last], acked(62)), width(63, 32, 62)) // just below the widest
	isLast(t, with(l[:last], acked(62), acked(64)), width(64, 32, 63))
	isLast(t, with(l[:last], acked(64)), width(64, 32, 1))
}

func TestHowOftenAckedIsToldMakesNoDifference(t *testing.T) {
	for _, head := range [][]api.Signal{nil, {late()}, {again()}, {acked(63)}, {acked(63), again()}, {acked(20), late()}, {acked(40), again(), acked(7)}} {
		for n := 1; n <= widest; n++ {
			whole, _ := cong.Play(with(head, acked(n)))
			isLast(t, with(head, times(n, acked(1))...), whole[len(head)])
			if n > 1 {
				isLast(t, with(head, acked(n/2), acked(n-n/2)), whole[len(head)])
			}
		}
	}
}

// P6.1: Again and Late.

func TestSlowOfAllWindows(t *testing.T) {
	for window, slow := range []int{1: 2, 2: 2, 3: 2, 4: 2, 5: 2, 6: 3, 7: 3, 8: 4, 9: 4, 10: 5, 11: 5, 62: 31, 63: 31, 64: 32} {
		if slow != 0 {
			isLast(t, with(upTo(window), again()), width(slow, slow, 0))
			isLast(t, with(upTo(window), late()), width(1, slow, 0))
		}
	}
	for window := 4; window <= widest; window++ {
		n := window / 2
		isLast(t, with(upTo(window), again()), width(n, n, 0))
		isLast(t, with(upTo(window), late()), width(1, n, 0))
	}
}

func TestSlowIsOfWindowAndNotOfSlow(t *testing.T) {
	// Slow is 20 here, and Window below it, at it, and above it.
	for n, window := range []int{1: 2, 2: 3, 9: 10, 10: 11, 18: 19, 19: 20, 39: 21, 60: 22} {
		if window != 0 {
			l := []api.Signal{acked(39), late(), acked(n)}
			isLast(t, with(l, again()), width(half(window), half(window), 0))
			isLast(t, with(l, late()), width(1, half(window), 0))
		}
	}
	isLast(t, []api.Signal{acked(39), late(), late()}, width(1, 2, 0))
	isLast(t, []api.Signal{acked(39), late(), again()}, width(2, 2, 0)) // Window is wider than it was
}

func TestWhatIsCountedIsForgotten(t *testing.T) {
	for n := 1; n < 20; n++ { // Window and Slow are 20, Again is n
		l := []api.Signal{acked(39), again(), acked(n)}
		isLast(t, l, width(20, 20, n))
		isLast(t, with(l, again()), width(10, 10, 0))
		isLast(t, with(l, again(), acked(9)), width(10, 10, 9))
		isLast(t, with(l, late()), width(1, 10, 0))
		isLast(t, with(l, late(), acked(9), acked(1)), width(10, 10, 1))
	}
}

func TestAgainAndLateBehindEachOther(t *testing.T) {
	isPlay(t, []api.Signal{acked(49), again(), late()}, width(50, 64, 0), width(25, 25, 0), width(1, 12, 0))
	isPlay(t, []api.Signal{acked(49), late(), again()}, width(50, 64, 0), width(1, 25, 0), width(2, 2, 0))
	isPlay(t, []api.Signal{again(), late(), again(), late()}, width(2, 2, 0), width(1, 2, 0), width(2, 2, 0), width(1, 2, 0))
	isPlay(t, []api.Signal{acked(63), again(), again(), again(), again(), again(), again(), again()},
		width(64, 64, 0), width(32, 32, 0), width(16, 16, 0), width(8, 8, 0), width(4, 4, 0), width(2, 2, 0), width(2, 2, 0), width(2, 2, 0))
	isPlay(t, []api.Signal{acked(62), again(), again(), again(), again(), again(), late()},
		width(63, 64, 0), width(31, 31, 0), width(15, 15, 0), width(7, 7, 0), width(3, 3, 0), width(2, 2, 0), width(1, 2, 0))
	isPlay(t, []api.Signal{acked(63), late(), late(), late(), acked(1), late()},
		width(64, 64, 0), width(1, 32, 0), width(1, 2, 0), width(1, 2, 0), width(2, 2, 0), width(1, 2, 0))
	isLast(t, times(events, again()), width(2, 2, 0))
	isLast(t, times(events, late()), width(1, 2, 0))
}

func TestCountOfOthersIsNotLookedAt(t *testing.T) {
	for _, n := range append(noCounts(), 1, 2, 5, widest) {
		odd := []api.Signal{acked(19), {Kind: kindAgain, Count: n}, acked(3), {Kind: kindLate, Count: n}, {Kind: kindAgain, Count: -n}}
		isPlay(t, odd, width(20, 64, 0), width(10, 10, 0), width(10, 10, 3), width(1, 5, 0), width(2, 2, 0))
	}
}

// P6.1: errors.

func TestAsManyAsMayBeAndOneMore(t *testing.T) {
	for _, s := range []api.Signal{acked(1), acked(widest), again(), late()} {
		isModel(t, times(events-1, s))
		isModel(t, times(events, s))
		isCode(t, times(events+1, s), errSize)
		isCode(t, times(events+2, s), errSize)
		isCode(t, times(4*events, s), errSize)
		isCode(t, times(65536, s), errSize)
		isCode(t, times(65536+1, s), errSize)
	}
}

func TestNoSuchCount(t *testing.T) {
	for n := -2 * widest; n <= 3*widest; n++ {
		if n >= 1 && n <= widest {
			isModel(t, []api.Signal{acked(n)})
		} else {
			isCode(t, []api.Signal{acked(n)}, errRange)
		}
	}
	for _, n := range noCounts() {
		for _, l := range places(acked(n)) {
			isCode(t, l, errRange)
		}
	}
}

func TestNoSuchKind(t *testing.T) {
	for kind := -300; kind <= 600; kind++ {
		if s := (api.Signal{Kind: kind, Count: 1}); kind >= 1 && kind <= 3 {
			isModel(t, []api.Signal{s})
		} else {
			isCode(t, []api.Signal{s}, errKind)
		}
	}
	for _, kind := range noKinds() {
		for _, l := range places(api.Signal{Kind: kind, Count: 1}) {
			isCode(t, l, errKind)
		}
	}
	isCode(t, make([]api.Signal, 3), errKind)
}

// places: a bad signal alone, as the first one, in the midst, and as the last one, of few and of as many as may be.
func places(bad api.Signal) [][]api.Signal {
	out := [][]api.Signal{{bad}, {bad, bad}}
	for _, n := range []int{1, 2, 9, events - 1} {
		for _, at := range []int{0, n / 2, n} {
			l := times(n, acked(2))
			if n > 2 {
				l[n-1], l[n/3] = again(), late()
			}
			out = append(out, slices.Insert(l, at, bad))
		}
	}
	return out
}

func TestKindIsToldAheadOfCount(t *testing.T) {
	for _, kind := range noKinds() {
		for _, n := range noCounts() {
			isCode(t, []api.Signal{{Kind: kind, Count: n}}, errKind)
			isCode(t, []api.Signal{acked(1), {Kind: kind, Count: n}, late()}, errKind)
		}
	}
}

func TestTheEarlierSignalIsToldAheadOfTheLaterOne(t *testing.T) {
	noKind, noCount := api.Signal{Kind: 4, Count: 1}, acked(0)
	for n := range 5 {
		head := times(n, acked(3))
		isCode(t, with(head, noKind, noCount), errKind)
		isCode(t, with(head, noCount, noKind), errRange)
		isCode(t, with(head, noKind, again(), acked(65)), errKind)
		isCode(t, with(head, acked(65), again(), noKind), errRange)
		isCode(t, with(head, api.Signal{}, late(), noCount, late()), errKind)
		isCode(t, with(head, acked(-1), late(), api.Signal{Kind: -1, Count: -1}, late()), errRange)
	}
}

func TestSizeIsToldAheadOfAll(t *testing.T) {
	for _, bad := range []api.Signal{{}, {Kind: 4, Count: 1}, acked(0), acked(65), {Kind: math.MinInt64, Count: math.MaxInt64}} {
		for _, n := range []int{events, events + 1} { // with the bad one they are too many
			for _, at := range []int{0, n / 2, events - 1, events, n} {
				isCode(t, slices.Insert(times(n, acked(1)), at, bad), errSize)
			}
		}
		isCode(t, times(events+1, bad), errSize)
	}
}

func TestNumbersBeyondAllBounds(t *testing.T) {
	for _, a := range far() {
		for _, b := range far() {
			isCode(t, []api.Signal{{Kind: a, Count: b}}, errKind)
			isCode(t, []api.Signal{acked(a), {Kind: b, Count: a}}, errRange)
			isCode(t, []api.Signal{{Kind: kindAgain, Count: a}, acked(b)}, errRange)
			isCode(t, []api.Signal{{Kind: kindLate, Count: a}, {Kind: b, Count: 1}}, errKind)
			isPlay(t, []api.Signal{{Kind: kindLate, Count: a}, {Kind: kindAgain, Count: b}}, width(1, 2, 0), width(2, 2, 0))
		}
	}
}

// Many signals.

func TestAllShortLists(t *testing.T) {
	alphabet := []api.Signal{acked(1), acked(2), acked(3), acked(7), acked(20), acked(64), again(), late()}
	var walk func(l []api.Signal)
	walk = func(l []api.Signal) {
		isModel(t, l)
		if len(l) < 6 {
			for _, s := range alphabet {
				walk(with(l, s))
			}
		}
	}
	walk(nil)
}

// dice: numbers that look as if by chance, the same ones each time.
func dice() func(n int) int {
	seed := uint32(11)
	return func(n int) int {
		seed = seed*1664525 + 1013904223
		return int(seed>>8) % n
	}
}

// mixed: as many signals as may be; in one of so many something is lost.
func mixed(chance func(n int) int, lost int) []api.Signal {
	var l []api.Signal
	for range events {
		switch chance(2 * lost) {
		case 0:
			l = append(l, api.Signal{Kind: kindAgain, Count: chance(200) - 100})
		case 1:
			l = append(l, api.Signal{Kind: kindLate, Count: chance(200) - 100})
		default:
			l = append(l, acked(1+chance(widest)))
		}
	}
	return l
}

func TestLongLists(t *testing.T) {
	chance := dice()
	for n := range 4000 {
		isModel(t, mixed(chance, 2+n%60))
	}
}

func TestBoundsOfWidths(t *testing.T) {
	chance := dice()
	for n := range 1000 {
		got, _ := cong.Play(mixed(chance, 2+n%60))
		for _, w := range got {
			if w.Window < 1 || w.Window > widest || w.Slow < 2 || w.Slow > widest || w.Again < 0 || w.Again >= w.Window || w.Window < w.Slow && w.Again != 0 {
				t.Fatalf("%v", w)
			}
		}
	}
}

func TestTwoWhoLoseComeHalfAsNear(t *testing.T) {
	for a := 4; a <= widest; a++ {
		for b := a; b <= widest; b++ {
			near, _ := cong.Play(with(upTo(a), again()))
			wide, _ := cong.Play(with(upTo(b), again()))
			gap := wide[1].Window - near[1].Window
			if 2*gap < b-a-1 || 2*gap > b-a+1 {
				t.Fatalf("%d and %d: %v %v", a, b, near[1], wide[1])
			}
		}
	}
}

// What holds everywhere.

// lists: some that are played, and some that are refused.
func lists() [][]api.Signal {
	chance := dice()
	out := [][]api.Signal{{}, {acked(9), again(), acked(4), late()}, times(events, acked(7)), times(events+1, acked(7)), {acked(5), acked(0)}, {again(), {}}}
	for n := range 30 {
		out = append(out, mixed(chance, 2+n))
	}
	return out
}

func TestWhatIsHandedInIsNotChanged(t *testing.T) {
	for _, l := range lists() {
		room := append(slices.Clone(l), times(20, api.Signal{Kind: 77, Count: 78})...)
		before := slices.Clone(room)
		cong.Play(room[:len(l)])
		if !slices.Equal(room, before) {
			t.Fatalf("Play(%v) left %v", before[:len(l)], room)
		}
	}
}

func TestWhatComesOutIsNewMemory(t *testing.T) {
	for _, l := range lists() {
		one, code := cong.Play(l)
		two, _ := cong.Play(l)
		want := slices.Clone(two)
		one = one[:cap(one)] // spare room, too
		for i := range one {
			one[i] = width(-1, -1, -1)
		}
		if !slices.Equal(two, want) {
			t.Fatalf("two answers to %v share memory", l)
		}
		three, again := cong.Play(l)
		if !slices.Equal(three, want) || again != code {
			t.Fatalf("Play(%v): %v %d, and before %v %d", l, three, again, want, code)
		}
		for i := range l { // nor is what was handed in kept
			l[i] = api.Signal{Kind: kindLate}
		}
		if !slices.Equal(two, want) || !slices.Equal(three, want) {
			t.Fatalf("an answer changed with what was handed in")
		}
	}
}

// answers: what all of these lists come to, as one text.
func answers(all [][]api.Signal) string {
	var s []byte
	for _, l := range all {
		got, code := cong.Play(l)
		s = fmt.Appendln(s, got, code)
	}
	return string(s)
}

func TestAnswersHangOnArgumentsAlone(t *testing.T) {
	all := lists()
	want := answers(all)
	back := slices.Clone(all)
	slices.Reverse(back)
	answers(back)
	var hands sync.WaitGroup
	for range 4 {
		hands.Go(func() {
			if answers(all) != want {
				t.Error("asked again, another answer")
			}
		})
	}
	hands.Wait()
}
