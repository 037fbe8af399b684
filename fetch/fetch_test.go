package fetch_test

import (
	"bytes"
	"fmt"
	"math"
	"slices"
	"testing"

	"packthread/api"
	"packthread/fetch"
)

// The limits and the numbers of errors, written out: they must not move with the program.
const (
	events = 300
	most   = 2048 // bytes of a file
	flight = 6    // wants that are out by asking on
	chunk  = 100

	chunks = 21             // that are asked for at all: front is 2000, and then 2100
	beyond = chunks * chunk // the first place that is never asked for

	ok      = api.Errno(0)
	errSize = api.Errno(1)
	errNone = api.Errno(7)
)

// text: n bytes of the file from a place on; each place has its own look for a long way.
func text(from, n int) []byte {
	b := make([]byte, n)
	for i := range b {
		p := from + i
		b[i] = byte(p*37 + p>>8*11 + 3)
	}
	return b
}

// pair: a Got, and what should come of it.
type pair struct {
	got  api.Got
	want api.Next
}

// Gots.

// bring: of this want the first n bytes of the file.
func bring(at, count, n int) api.Got {
	return api.Got{At: at, Count: count, Data: text(at, n)}
}

// none: no bytes of this want.
func none(at, count int) api.Got { return api.Got{At: at, Count: count} }

// What comes of them.

// ask: with Wants of two and two numbers.
func ask(l ...int) api.Next {
	var out api.Next
	for ; len(l) > 0; l = l[2:] {
		out.Wants = append(out.Wants, api.Want{At: l[0], Count: l[1]})
	}
	return out
}

// done: the file has so many bytes; and Wants beside that.
func done(n int, l ...int) api.Next {
	x := ask(l...)
	x.Done, x.Data = true, text(0, n)
	return x
}

func refused(code api.Errno) api.Next { return api.Next{Code: code} }

// first: what is asked for at first.
func first() api.Next { return ask(0, 100, 100, 100, 200, 100, 300, 100, 400, 100, 500, 100) }

// onward: what is asked on when so many chunks were asked for.
func onward(asked int) api.Next {
	if asked >= chunks {
		return ask()
	}
	return ask(asked*chunk, chunk)
}

// inOrder: the first chunks, one by one; one chunk more is asked for each time.
func inOrder(n int) []pair {
	var l []pair
	for i := range n {
		l = append(l, pair{bring(i*chunk, chunk, chunk), onward(flight + i)})
	}
	return l
}

// same: whether two answers are alike; lists without elements may be nil or not.
func same(a, b api.Next) bool {
	return a.Code == b.Code && slices.Equal(a.Wants, b.Wants) && a.Done == b.Done && bytes.Equal(a.Data, b.Data)
}

func show(x api.Next) string {
	return fmt.Sprintf("{Code %d Wants %v Done %v Data %d: %x}", x.Code, x.Wants, x.Done, len(x.Data), x.Data)
}

func shows(l []api.Next, code api.Errno) string {
	s := fmt.Sprint(int(code))
	for _, x := range l {
		s += show(x)
	}
	return s
}

// sketches: Gots with as many bytes instead of which ones.
func sketches(l []api.Got) (out []string) {
	for _, g := range l {
		out = append(out, fmt.Sprintf("%d of %d+%d", len(g.Data), g.At, g.Count))
	}
	return out
}

// isList: these Gots come to what is wanted, the first of which is what is asked for at first.
func isList(t *testing.T, l []api.Got, want []api.Next) {
	t.Helper()
	got, code := fetch.Play(l)
	if code != ok || len(got) != len(want) {
		t.Fatalf("Play(%q): %d told, %d; want %d", sketches(l), len(got), code, len(want))
	}
	for i := range got {
		if !same(got[i], want[i]) {
			t.Fatalf("Play(%q), at %d: %s, want %s", sketches(l[:i]), i, show(got[i]), show(want[i]))
		}
	}
}

// isPlay: each Got comes to what stands beside it, also when nothing follows, and when all that is refused is left out.
func isPlay(t *testing.T, pairs ...pair) {
	t.Helper()
	var l, granted []api.Got
	want, told := []api.Next{first()}, []api.Next{first()}
	isList(t, l, want)
	for _, p := range pairs {
		l, want = append(l, p.got), append(want, p.want)
		isList(t, l, want)
		if p.want.Code == ok {
			granted, told = append(granted, p.got), append(told, p.want)
		}
	}
	isList(t, granted, told)
}

// isNothing: all of these together come to this code, and nothing is told beside that.
func isNothing(t *testing.T, l []api.Got, want api.Errno) {
	t.Helper()
	if got, code := fetch.Play(l); code != want || len(got) != 0 {
		t.Fatalf("%d Gots: %d told, %d; want none, %d", len(l), len(got), code, want)
	}
}

// with: these pairs behind those, in new memory.
func with(l []pair, more ...pair) []pair { return append(slices.Clone(l), more...) }

// far: numbers beyond all bounds, some of which look small when bits are cut off.
func far() []int {
	return []int{
		1<<31 - 1, 1 << 31, 1<<31 + 100, 1 << 32, 1<<32 + 1, 1<<32 + 100, 1<<32 + 200, 1<<48 + 100, 1 << 62, 1<<62 + 100, math.MaxInt64 - 100, math.MaxInt64 - 99, math.MaxInt64 - 1, math.MaxInt64,
		-1, -2, -50, -99, -100, -101, -200, -256, -most, -beyond, -65536, -1 << 31, -1<<31 + 100, -1 << 32, -1<<32 + 100, -1<<48 + 200, -1 << 62, -1<<62 + 100, math.MinInt64 + 100, math.MinInt64 + 1, math.MinInt64,
	}
}

// P15.1: how many Gots may be.

func TestNoGotAtAll(t *testing.T) {
	for _, l := range [][]api.Got{nil, {}, make([]api.Got, 0, 9)} {
		isList(t, l, []api.Next{first()})
	}
}

func TestAsManyGotsAsMayBeAndOneMore(t *testing.T) {
	for _, g := range []api.Got{bring(0, 100, 100), bring(0, 100, 3), none(0, 100), bring(0, 100, 101), none(7, 100), {}} {
		for _, n := range []int{events - 1, events} {
			if got, code := fetch.Play(slices.Repeat([]api.Got{g}, n)); code != ok || len(got) != n+1 || !same(got[0], first()) || !same(got[n], refused(errNone)) && !same(got[n], refused(errSize)) {
				t.Fatalf("%d of %q: %d told, %d", n, sketches([]api.Got{g}), len(got), code)
			}
		}
		for _, n := range []int{events + 1, events + 2, 2 * events, 65536, 65537} {
			isNothing(t, slices.Repeat([]api.Got{g}, n), errSize)
		}
	}
}

// TestGotsToTheLast: the last one that may be is granted like all others.
func TestGotsToTheLast(t *testing.T) {
	var l []pair
	for n := range events { // a byte each time
		at := n % chunk
		l = append(l, pair{bring(n, chunk-at, 1), ask(n+1, chunk-at-1)})
		if at == chunk-1 {
			l[n].want = onward(flight + n/chunk)
		}
	}
	isPlay(t, l...)
	l[events-1] = pair{none(299, 1), done(299)}
	isPlay(t, l...)
	l[events-1] = pair{none(300, 100), ask()}
	isPlay(t, l...)
}

// P15.1: what is asked for at first, and on.

func TestWhatIsAskedForAtFirst(t *testing.T) {
	got, code := fetch.Play(nil)
	if code != ok || len(got) != 1 || len(got[0].Wants) != 6 {
		t.Fatalf("%s", shows(got, code))
	}
	for i, w := range got[0].Wants {
		if w.At != 100*i || w.Count != 100 {
			t.Errorf("want %d: %v", i, w)
		}
	}
	if got[0].Done || len(got[0].Data) > 0 || got[0].Code != ok {
		t.Errorf("%s", shows(got, code))
	}
}

// TestChunkByChunk: as long as front is not above MaxFile; that all came is not the end.
func TestChunkByChunk(t *testing.T) {
	l := inOrder(chunks)
	if !same(l[14].want, ask(2000, 100)) || !same(l[15].want, ask()) {
		t.Fatal("2000 is the last place from which on is asked")
	}
	isPlay(t, l...)
	for _, at := range []int{0, 1900, 2000, 2048, 2100, 2200} { // nothing is out any more
		isPlay(t, with(l, pair{none(at, 100), refused(errNone)}, pair{bring(at, 100, 100), refused(errNone)})...)
	}
}

// TestInAnyOrder: one chunk is asked on for each that came whole, whichever of those that are out it was.
func TestInAnyOrder(t *testing.T) {
	for _, pick := range []func(n int) int{
		func(n int) int { return n - 1 },
		func(n int) int { return n / 2 },
		func(n int) int { return min(1, n-1) },
		func(n int) int { return max(0, n-2) },
		func(n int) int { return n * 7 % 5 % n },
		func(n int) int { return (n*n + 3) % n },
	} {
		out := first().Wants
		var l []pair
		for asked := flight; len(out) > 0; asked++ {
			k := pick(len(out))
			w := out[k]
			x := onward(asked)
			l = append(l, pair{bring(w.At, w.Count, w.Count), x})
			out = append(slices.Delete(out, k, k+1), x.Wants...)
		}
		if len(l) != chunks {
			t.Fatalf("%d chunks", len(l))
		}
		isPlay(t, l...)
	}
}

// TestNoMoreThanSixAreOut: what is left of a want takes its room.
func TestNoMoreThanSixAreOut(t *testing.T) {
	var l []pair
	for i := range flight {
		l = append(l, pair{bring(i*chunk, chunk, 60), ask(i*chunk+60, 40)})
	}
	for i := range flight {
		l = append(l, pair{bring(i*chunk+60, 40, 39), ask(i*chunk+99, 1)})
	}
	for i := range flight { // only when all of one came there is room again
		l = append(l, pair{bring(i*chunk+99, 1, 1), ask((flight+i)*chunk, 100)})
	}
	isPlay(t, with(l, pair{bring(700, 100, 99), ask(799, 1)}, pair{bring(600, 100, 100), ask(1200, 100)}, pair{bring(799, 1, 1), ask(1300, 100)}, pair{bring(1300, 100, 1), ask(1301, 99)})...)
}

// TestNothingIsAskedOnAboveTheGreatestFile: with fewer than six out, too; but for what is left of wants.
func TestNothingIsAskedOnAboveTheGreatestFile(t *testing.T) {
	l := with(inOrder(15), pair{bring(2000, 100, 48), ask(2048, 52)}, pair{bring(2048, 52, 1), ask(2049, 51)}, pair{bring(1500, 100, 100), ask()}, pair{bring(2049, 51, 50), ask(2099, 1)}, pair{bring(1600, 100, 2), ask(1602, 98)}, pair{bring(2099, 1, 1), ask()}, pair{bring(1602, 98, 98), ask()}, pair{bring(1700, 100, 100), ask()}, pair{bring(1900, 100, 100), ask()})
	isPlay(t, with(l, pair{bring(1800, 100, 100), ask()}, pair{none(2100, 100), refused(errNone)})...)
	isPlay(t, with(l, pair{bring(1800, 100, 99), ask(1899, 1)}, pair{none(1899, 1), done(1899)})...)
	isPlay(t, with(l, pair{none(1800, 100), done(1800)}, pair{none(1800, 100), refused(errNone)})...)
}

// The document's example.

func TestExample(t *testing.T) {
	isPlay(t,
		pair{bring(100, 100, 40), ask(140, 60)},
		pair{none(7, 100), refused(errNone)},
		pair{none(200, 100), ask()},
		pair{none(140, 60), ask()},
		pair{bring(0, 100, 100), done(140)},
		pair{none(300, 100), done(140)},
	)
}
