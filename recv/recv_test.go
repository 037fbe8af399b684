package recv_test

import (
	"bytes"
	"fmt"
	"math"
	"slices"
	"sync"
	"testing"

	"packthread/api"
	"packthread/recv"
)

// The limits, the kinds and the numbers of errors, written out: they must not move with the program.
const (
	most   = 1048576 // places of a stream
	widest = 4096    // bytes of room, and of one Take
	packet = 64      // bytes that come at once
	events = 300
	holes  = 16
	blocks = 3

	kindArrive = 1
	kindTake   = 2

	ok       = api.Errno(0)
	errSize  = api.Errno(1)
	errRange = api.Errno(2)
	errKind  = api.Errno(3)
	errFull  = api.Errno(9)
	errState = api.Errno(10)
)

// text: n bytes of the stream from a place on; each place has its own look for a long way.
func text(from, n int) []byte {
	b := make([]byte, n)
	for i := range b {
		p := from + i
		b[i] = byte(p*37 + p>>8*11 + p>>16*5 + 3)
	}
	return b
}

// pair: an arrival, and what it should come to.
type pair struct {
	arrival api.Arrival
	want    api.Told
}

// Arrivals.

// come: n bytes of the stream, from a place on.
func come(from, n int) api.Arrival {
	return api.Arrival{Kind: kindArrive, From: from, Data: text(from, n)}
}

// last: these, and the end behind them.
func last(from, n int) api.Arrival {
	a := come(from, n)
	a.Fin = true
	return a
}

// other: as many bytes, each of them another one than that of the stream.
func other(from, n int) api.Arrival {
	a := come(from, n)
	a.Data = turned(a.Data)
	return a
}

func turned(l []byte) []byte {
	out := slices.Clone(l)
	for i := range out {
		out[i] ^= 0xff
	}
	return out
}

func take(n int) api.Arrival { return api.Arrival{Kind: kindTake, Count: n} }

// odd: of no kind that there is, with all that the two kinds have.
func odd(kind int) api.Arrival {
	a := last(7, 3)
	a.Kind, a.Count = kind, 5
	return a
}

func ranges(l ...int) []api.Range {
	var out []api.Range
	for ; len(l) > 0; l = l[2:] {
		out = append(out, api.Range{From: l[0], To: l[1]})
	}
	return out
}

// What arrivals come to.

// told: with Sacks of two and two numbers.
func told(ack, window int, sacks ...int) api.Told {
	return api.Told{Ack: ack, Window: window, Sacks: ranges(sacks...)}
}

func refused(code api.Errno, ack, window int, sacks ...int) api.Told {
	x := told(ack, window, sacks...)
	x.Code = code
	return x
}

// took: n bytes of the stream, from a place on.
func took(from, n, ack, window int, sacks ...int) api.Told {
	x := told(ack, window, sacks...)
	x.Data = text(from, n)
	return x
}

// ended: and that was all.
func ended(x api.Told) api.Told {
	x.End = true
	return x
}

// as: the same, but for the code.
func as(code api.Errno, x api.Told) api.Told {
	x.Code = code
	return x
}

// same: whether two of what arrivals come to are alike; lists without elements may be nil or not.
func same(a, b api.Told) bool {
	return a.Code == b.Code && a.Ack == b.Ack && a.Window == b.Window && slices.Equal(a.Sacks, b.Sacks) && bytes.Equal(a.Data, b.Data) && a.End == b.End
}

func show(x api.Told) string {
	return fmt.Sprintf("{Code %d Ack %d Window %d Sacks %v Data %v End %v}", x.Code, x.Ack, x.Window, x.Sacks, x.Data, x.End)
}

func shows(l []api.Told, code api.Errno) string {
	s := fmt.Sprint(int(code))
	for _, x := range l {
		s += show(x)
	}
	return s
}

// sketch: an arrival, with as many bytes instead of which ones.
func sketch(a api.Arrival) string {
	switch {
	case a.Kind == kindArrive && a.Fin:
		return fmt.Sprintf("Arrive %d+%d Fin", a.From, len(a.Data))
	case a.Kind == kindArrive:
		return fmt.Sprintf("Arrive %d+%d", a.From, len(a.Data))
	case a.Kind == kindTake:
		return fmt.Sprintf("Take %d", a.Count)
	}
	return fmt.Sprintf("Kind %d", a.Kind)
}

func sketches(l []api.Arrival) (out []string) {
	for _, a := range l {
		out = append(out, sketch(a))
	}
	return out
}

// isList: these arrivals come to what is wanted.
func isList(t *testing.T, room int, l []api.Arrival, want []api.Told) {
	t.Helper()
	got, code := recv.Play(room, l)
	if code != ok || len(got) != len(want) {
		t.Fatalf("Play(%d, %q): %d told, %d; want %d", room, sketches(l), len(got), code, len(want))
	}
	for i := range got {
		if !same(got[i], want[i]) {
			t.Fatalf("Play(%d, %q), at %d: %s, want %s", room, sketches(l[:i+1]), i, show(got[i]), show(want[i]))
		}
	}
}

// isPlay: each arrival comes to what stands beside it, also when nothing follows, and whatever stands in what its kind does not have.
func isPlay(t *testing.T, room int, pairs ...pair) {
	t.Helper()
	var l, littered []api.Arrival
	var want []api.Told
	isList(t, room, nil, nil)
	for i, p := range pairs {
		l, want = append(l, p.arrival), append(want, p.want)
		littered = append(littered, litter(p.arrival, i))
		isList(t, room, l, want)
	}
	isList(t, room, littered, want)
}

// litter: an arrival with odd things in all that its kind does not have.
func litter(a api.Arrival, n int) api.Arrival {
	if a.Kind != kindTake {
		a.Count = []int{math.MinInt64, -1, 1, widest + 1, math.MaxInt64}[n%5]
	}
	if a.Kind != kindArrive {
		a.From, a.Data, a.Fin = []int{math.MinInt64, 6, 11, most, math.MaxInt64, 0, 31}[n%7], make([]byte, n%9*20), n%2 == 0
	}
	return a
}

// isCode: all of these arrivals together come to this code, and nothing is told beside that.
func isCode(t *testing.T, room int, l []api.Arrival, want api.Errno) {
	t.Helper()
	if got, code := recv.Play(room, l); code != want || len(got) != 0 {
		t.Fatalf("Play(%d, %q): %d told, %d; want none, %d", room, sketches(l), len(got), code, want)
	}
}

// with: these pairs behind those, in new memory.
func with(l []pair, more ...pair) []pair { return append(slices.Clone(l), more...) }

// far: numbers beyond all bounds, some of which look small when bits are cut off.
func far() []int {
	return []int{
		1<<31 - 1, 1 << 31, 1<<31 + 1, 1<<32 - 1, 1 << 32, 1<<32 + 1, 1<<32 + 5, 1<<32 + 64, 1<<48 + 7, 1 << 62, 1<<62 + 3, math.MaxInt64 - most, math.MaxInt64 - widest, math.MaxInt64 - 64, math.MaxInt64 - 1, math.MaxInt64,
		-1, -2, -3, -64, -255, -widest, -65536, -most, -1 << 31, -1<<31 + 5, -1<<32 + 5, -1 << 32, -1<<48 + 1, -1 << 62, -1<<62 + 3, math.MinInt64 + most, math.MinInt64 + widest, math.MinInt64 + 64, math.MinInt64 + 5, math.MinInt64 + 1, math.MinInt64,
	}
}

func noCounts() []int { // of Take; as rooms, too
	return append([]int{widest + 1, widest + 2, 2 * widest, 65536, 65537, most}, far()...)
}

func noPlaces() []int { return append([]int{most, most + 1, 2 * most}, far()...) }

func noKinds() []int {
	return append([]int{0, 3, 4, 5, 8, 16, 255, 256, 257, 258, 65537, 65538}, far()...)
}

// P8.1: at first, and what is refused as a whole.

func TestNoArrivalAtAll(t *testing.T) {
	for _, room := range []int{1, 2, 64, widest - 1, widest} {
		isCode(t, room, nil, ok)
		isCode(t, room, []api.Arrival{}, ok)
		isCode(t, room, make([]api.Arrival, 0, 9), ok)
	}
}

func TestAtFirst(t *testing.T) {
	for _, room := range []int{1, 2, 64, widest} { // nothing came, nothing was taken, and no end is known
		isPlay(t, room, pair{come(0, 0), told(0, room)}, pair{take(0), told(0, room)}, pair{take(9), told(0, room)}, pair{take(widest), told(0, room)}, pair{odd(3), refused(errKind, 0, room)})
		isPlay(t, room, pair{take(-1), refused(errRange, 0, room)}, pair{come(-1, 0), refused(errRange, 0, room)}, pair{come(0, 65), refused(errSize, 0, room)})
		isPlay(t, room, pair{come(0, 1), told(1, room-1)}, pair{take(9), took(0, 1, 1, room)})
	}
}

func TestNoSuchRoom(t *testing.T) {
	for _, room := range append(noCounts(), 0) {
		for _, l := range [][]api.Arrival{nil, {}, {take(0)}, {come(0, 9), take(9)}, {{}}, slices.Repeat([]api.Arrival{take(0)}, events), slices.Repeat([]api.Arrival{take(0)}, events+1)} {
			isCode(t, room, l, errRange) // ahead of ErrSize, too
		}
	}
	for room := -300; room <= widest+300; room++ {
		want := ok
		if room < 1 || room > widest {
			want = errRange
		}
		isCode(t, room, nil, want)
	}
}

func TestAsManyArrivalsAsMayBeAndOneMore(t *testing.T) {
	for _, a := range []api.Arrival{come(0, 5), come(3, 5), last(0, 5), take(0), take(9), take(-1), {}, {Kind: 3}} {
		for _, n := range []int{events - 1, events} {
			if got, code := recv.Play(7, slices.Repeat([]api.Arrival{a}, n)); code != ok || len(got) != n {
				t.Fatalf("%d of %s: %d told, %d", n, sketch(a), len(got), code)
			}
		}
		for _, n := range []int{events + 1, events + 2, 2 * events, 65536, 65537} {
			for _, room := range []int{1, 7, widest} {
				isCode(t, room, slices.Repeat([]api.Arrival{a}, n), errSize)
			}
		}
	}
}

func TestTheLeastRoom(t *testing.T) {
	isPlay(t, 1,
		pair{come(1, 1), told(0, 1)}, // not below taken and room
		pair{come(0, 3), told(1, 0)}, // all but one are dropped
		pair{come(1, 2), told(1, 0)}, // shut
		pair{take(9), took(0, 1, 1, 1)},
		pair{come(2, 1), told(1, 1)},
		pair{come(0, 3), told(2, 0)},
		pair{take(1), took(1, 1, 2, 1)},
		pair{last(2, 1), told(4, 0)},
		pair{take(0), told(4, 0)},
		pair{take(1), ended(took(2, 1, 4, 1))},
	)
}

func TestTheGreatestRoom(t *testing.T) {
	var up, down []pair
	for n := range widest / packet {
		up = append(up, pair{come(n*packet, packet), told((n+1)*packet, widest-(n+1)*packet)})
		if from := widest - (n+1)*packet; from > 0 {
			down = append(down, pair{come(from, packet), told(0, widest, from, widest)})
		}
	}
	down = append(down, pair{come(0, packet), told(widest, 0)})
	tail := []pair{
		{come(widest, 1), told(widest, 0)}, // shut
		{take(widest), took(0, widest, widest, widest)},
		{come(2*widest-1, 2), told(widest, widest, 2*widest-1, 2*widest)},
		{come(2*widest, 1), told(widest, widest, 2*widest-1, 2*widest)},
		{last(widest, packet), refused(errState, widest, widest, 2*widest-1, 2*widest)},
		{take(widest), told(widest, widest, 2*widest-1, 2*widest)},
	}
	isPlay(t, widest, with(up, tail...)...)
	isPlay(t, widest, with(down, tail...)...)
}

// The document's examples.

func TestThreeSegmentsOfWhichOneIsLost(t *testing.T) {
	isPlay(t, 4096,
		pair{come(0, 64), told(64, 4032)},
		pair{come(128, 64), told(64, 4032, 128, 192)}, // beyond the gap
		pair{take(192), took(0, 64, 64, 4096, 128, 192)},
		pair{come(64, 64), told(192, 3968)},
		pair{take(192), took(64, 128, 192, 4096)},
	)
	isPlay(t, 192,
		pair{come(0, 64), told(64, 128)}, pair{come(128, 64), told(64, 128, 128, 192)}, pair{come(64, 64), told(192, 0)},
		pair{take(192), took(0, 192, 192, 192)},
	)
}

// P8.1: the Data of an Arrive.

func TestDataOfAllSizes(t *testing.T) {
	for n := range packet + 1 {
		isPlay(t, 100, pair{come(0, n), told(n, 100-n)}, pair{take(100), took(0, n, n, 100)})
		if n > 0 {
			isPlay(t, 100, pair{come(5, n), told(0, 100, 5, 5+n)}, pair{come(0, 5), told(5+n, 95-n)}, pair{take(100), took(0, 5+n, 5+n, 100)})
		}
		isPlay(t, 100, pair{last(0, n), told(n+1, 100-n)}, pair{take(100), ended(took(0, n, n+1, 100))})
	}
	for _, n := range []int{packet + 1, packet + 2, 2 * packet, 256, 256 + 5, widest, 65536, 65536 + 5, most - 1} {
		isPlay(t, 100, pair{come(0, n), refused(errSize, 0, 100)}, pair{last(0, n), refused(errSize, 0, 100)}, pair{come(0, 3), told(3, 97)}, pair{take(9), took(0, 3, 3, 100)}, pair{last(3, 1), told(5, 99)})
	}
}

func TestDataWithoutBytes(t *testing.T) {
	none := func(from int) api.Arrival { return api.Arrival{Kind: kindArrive, From: from} }
	for _, from := range []int{0, 1, 5, 6, 9, 12, 13, 25, 39, 40, 41, 1000, most - 1} { // nothing comes, wherever that is; but the last place may lie in a range
		sacks := []int{30, 35, 10, 12}
		if from >= 10 && from < 12 {
			sacks = []int{10, 12, 30, 35}
		}
		isPlay(t, 40, pair{come(0, 5), told(5, 35)}, pair{come(10, 2), told(5, 35, 10, 12)}, pair{come(30, 5), told(5, 35, 30, 35, 10, 12)}, pair{none(from), told(5, 35, sacks...)}, pair{come(from, 0), told(5, 35, sacks...)}, pair{take(9), took(0, 5, 5, 40, 30, 35, 10, 12)})
	}
}

func TestFrom(t *testing.T) {
	for n := range packet + 1 { // the place behind the Data just below MaxPos, and at it
		isPlay(t, 9, pair{come(most-1-n, n), told(0, 9)}, pair{come(most-n, n), refused(errRange, 0, 9)}, pair{last(most-n, n), refused(errRange, 0, 9)},
			pair{last(most-1-n, n), told(0, 9)}, pair{last(most-1, 0), told(0, 9)}, pair{last(most-2, 0), refused(errState, 0, 9)}, pair{come(0, 9), told(9, 0)}, pair{take(9), took(0, 9, 9, 9)})
		for _, from := range []int{-1, -2, -n, -n - 1, -packet, 1 - packet, -most} {
			if from < 0 {
				isPlay(t, 9, pair{come(from, n), refused(errRange, 0, 9)}, pair{last(from, n), refused(errRange, 0, 9)}, pair{come(0, 3), told(3, 6)}, pair{come(from, n), refused(errRange, 3, 6)}, pair{last(3, 0), told(4, 6)})
			}
		}
		for _, from := range noPlaces() {
			isPlay(t, 9, pair{come(from, n), refused(errRange, 0, 9)}, pair{last(from, n), refused(errRange, 0, 9)}, pair{come(0, 3), told(3, 6)}, pair{last(from, n), refused(errRange, 3, 6)}, pair{last(3, 0), told(4, 6)})
		}
	}
}

// laid: these bytes, with those of the other list at the places of these ranges.
func laid(l, over []byte, at []api.Range) []byte {
	out := slices.Clone(l)
	for _, r := range at {
		copy(out[r.From:r.To], over[r.From:r.To])
	}
	return out
}

func TestDataBesideWhatCame(t *testing.T) {
	head := []pair{{come(0, 5), told(5, 35)}, {come(10, 10), told(5, 35, 10, 20)}, {come(30, 5), told(5, 35, 30, 35, 10, 20)}}
	for _, c := range []struct {
		from, n int
		want    api.Told
		came    []api.Range // with those of head
	}{
		{0, 5, told(5, 35, 30, 35, 10, 20), ranges(0, 5, 10, 20, 30, 35)},                   // just what came
		{2, 2, told(5, 35, 30, 35, 10, 20), ranges(0, 5, 10, 20, 30, 35)},                   // ahead of done
		{3, 4, told(7, 33, 30, 35, 10, 20), ranges(0, 7, 10, 20, 30, 35)},                   // begins ahead of done and ends behind it
		{5, 1, told(6, 34, 30, 35, 10, 20), ranges(0, 6, 10, 20, 30, 35)},                   // at done
		{5, 4, told(9, 31, 30, 35, 10, 20), ranges(0, 9, 10, 20, 30, 35)},                   // but for one place up to a range
		{5, 5, told(20, 20, 30, 35), ranges(0, 20, 30, 35)},                                 // joins one
		{4, 8, told(20, 20, 30, 35), ranges(0, 20, 30, 35)},                                 // and shares places with it
		{0, 20, told(20, 20, 30, 35), ranges(0, 20, 30, 35)},                                // ends with it
		{1, 24, told(25, 15, 30, 35), ranges(0, 25, 30, 35)},                                // covers it
		{5, 25, told(35, 5), ranges(0, 35)},                                                 // joins all
		{0, 40, told(40, 0), ranges(0, 40)},                                                 // covers all
		{0, 64, told(40, 0), ranges(0, 40)},                                                 // some of it stands beyond
		{12, 5, told(5, 35, 10, 20, 30, 35), ranges(0, 5, 10, 20, 30, 35)},                  // lies within one
		{10, 10, told(5, 35, 10, 20, 30, 35), ranges(0, 5, 10, 20, 30, 35)},                 // is one
		{6, 1, told(5, 35, 6, 7, 30, 35, 10, 20), ranges(0, 5, 6, 7, 10, 20, 30, 35)},       // between done and one
		{22, 3, told(5, 35, 22, 25, 30, 35, 10, 20), ranges(0, 5, 10, 20, 22, 25, 30, 35)},  // between two
		{21, 8, told(5, 35, 21, 29, 30, 35, 10, 20), ranges(0, 5, 10, 20, 21, 29, 30, 35)},  // but for one place on each side
		{20, 2, told(5, 35, 10, 22, 30, 35), ranges(0, 5, 10, 22, 30, 35)},                  // goes on from one
		{28, 2, told(5, 35, 28, 35, 10, 20), ranges(0, 5, 10, 20, 28, 35)},                  // goes ahead of one
		{8, 4, told(5, 35, 8, 20, 30, 35), ranges(0, 5, 8, 20, 30, 35)},                     // shares places with one
		{18, 4, told(5, 35, 10, 22, 30, 35), ranges(0, 5, 10, 22, 30, 35)},                  // also behind it
		{8, 14, told(5, 35, 8, 22, 30, 35), ranges(0, 5, 8, 22, 30, 35)},                    // covers one
		{20, 10, told(5, 35, 10, 35), ranges(0, 5, 10, 35)},                                 // joins two
		{15, 18, told(5, 35, 10, 35), ranges(0, 5, 10, 35)},                                 // and shares places with them
		{8, 30, told(5, 35, 8, 38), ranges(0, 5, 8, 38)},                                    // covers two
		{35, 5, told(5, 35, 30, 40, 10, 20), ranges(0, 5, 10, 20, 30, 40)},                  // ends just at taken and room
		{38, 2, told(5, 35, 38, 40, 30, 35, 10, 20), ranges(0, 5, 10, 20, 30, 35, 38, 40)},  // also alone
		{38, 3, told(5, 35, 38, 40, 30, 35, 10, 20), ranges(0, 5, 10, 20, 30, 35, 38, 40)},  // one of it stands beyond
		{38, 4, told(5, 35, 38, 40, 30, 35, 10, 20), ranges(0, 5, 10, 20, 30, 35, 38, 40)},  // half of it
		{39, 64, told(5, 35, 39, 40, 30, 35, 10, 20), ranges(0, 5, 10, 20, 30, 35, 39, 40)}, // all but one
		{40, 1, told(5, 35, 30, 35, 10, 20), ranges(0, 5, 10, 20, 30, 35)},                  // all of it
		{40, 64, told(5, 35, 30, 35, 10, 20), ranges(0, 5, 10, 20, 30, 35)},
		{41, 3, told(5, 35, 30, 35, 10, 20), ranges(0, 5, 10, 20, 30, 35)},
		{4000, 64, told(5, 35, 30, 35, 10, 20), ranges(0, 5, 10, 20, 30, 35)},
		{30, 64, told(5, 35, 30, 40, 10, 20), ranges(0, 5, 10, 20, 30, 40)},
	} {
		filled := func(data []byte) pair { return pair{take(99), api.Told{Ack: 40, Window: 40, Data: data}} }
		own := text(0, 40)
		odd := turned(own)
		isPlay(t, 40, with(head, pair{come(c.from, c.n), c.want}, pair{come(c.from, c.n), c.want}, pair{other(0, 64), told(40, 0)}, filled(laid(odd, own, c.came)))...) // what came first stays
		isPlay(t, 40, with(head, pair{other(c.from, c.n), c.want}, pair{come(0, 64), told(40, 0)}, filled(laid(laid(own, odd, c.came), own, ranges(0, 5, 10, 20, 30, 35))))...)
	}
}

func TestTheSameBytesAgain(t *testing.T) {
	isPlay(t, 9,
		pair{come(2, 3), told(0, 9, 2, 5)}, pair{come(2, 3), told(0, 9, 2, 5)}, pair{come(2, 3), told(0, 9, 2, 5)}, // beyond a gap
		pair{come(0, 2), told(5, 4)}, pair{come(0, 2), told(5, 4)}, pair{come(2, 3), told(5, 4)}, pair{come(0, 5), told(5, 4)}, // ahead of done
		pair{take(3), took(0, 3, 5, 7)}, pair{come(0, 5), told(5, 7)}, // some of it was taken
		pair{take(9), took(3, 2, 5, 9)}, pair{come(0, 5), told(5, 9)}, pair{take(9), told(5, 9)}, // all of it
		pair{last(5, 1), told(7, 8)}, pair{come(0, 6), told(7, 8)}, pair{take(9), ended(took(5, 1, 7, 9))}, pair{come(0, 6), told(7, 9)}, pair{come(3, 3), told(7, 9)}, pair{take(9), ended(told(7, 9))},
	)
}

func TestOtherBytesAtTheSamePlaces(t *testing.T) {
	isPlay(t, 9,
		pair{come(2, 3), told(0, 9, 2, 5)}, pair{other(2, 3), told(0, 9, 2, 5)}, pair{other(3, 1), told(0, 9, 2, 5)},
		pair{come(0, 2), told(5, 4)}, pair{other(0, 5), told(5, 4)}, pair{other(0, 2), told(5, 4)},
		pair{take(3), took(0, 3, 5, 7)}, pair{other(0, 5), told(5, 7)}, pair{take(9), took(3, 2, 5, 9)},
	)
	isPlay(t, 9, pair{other(8, 5), told(0, 9, 8, 9)}, pair{come(0, 8), told(9, 0)}, pair{take(8), took(0, 8, 9, 8)}, pair{come(9, 8), told(17, 0)}, // what was dropped did not come
		pair{take(9), api.Told{Ack: 17, Window: 9, Data: append(turned(text(8, 1)), text(9, 8)...)}})
	isPlay(t, 9, pair{other(0, packet+1), refused(errSize, 0, 9)}, pair{come(0, 3), told(3, 6)}, pair{take(9), took(0, 3, 3, 9)}) // nor did what was refused
}

func TestRoomFollowsWhatIsTaken(t *testing.T) {
	isPlay(t, 10,
		pair{come(0, 64), told(10, 0)},
		pair{come(10, 54), told(10, 0)},
		pair{take(1), took(0, 1, 10, 1)},
		pair{come(10, 54), told(11, 0)},
		pair{take(4), took(1, 4, 11, 4)},
		pair{come(13, 54), told(11, 4, 13, 15)},
		pair{come(15, 1), told(11, 4, 13, 15)},
		pair{take(6), took(5, 6, 11, 10, 13, 15)}, // taken is 11
		pair{come(15, 54), told(11, 10, 13, 21)},
		pair{come(21, 1), told(11, 10, 13, 21)},
		pair{come(0, 64), told(21, 0)},
		pair{take(99), took(11, 10, 21, 10)},
	)
}

// P8.1: the end.

func TestFinWithoutData(t *testing.T) {
	isPlay(t, 9, pair{last(0, 0), told(1, 9)}, pair{take(0), ended(told(1, 9))}, pair{come(0, 0), told(1, 9)}, pair{come(0, 1), refused(errState, 1, 9)}, pair{last(0, 0), told(1, 9)}, pair{last(0, 1), refused(errState, 1, 9)}, pair{take(9), ended(told(1, 9))})
	// ahead of what came
	isPlay(t, 9, pair{last(5, 0), told(0, 9)}, pair{take(9), told(0, 9)}, pair{come(0, 4), told(4, 5)}, pair{take(9), took(0, 4, 4, 9)}, pair{come(4, 1), told(6, 8)}, pair{take(0), told(6, 8)}, pair{take(1), ended(took(4, 1, 6, 9))})
	isPlay(t, 9, pair{come(0, 5), told(5, 4)}, pair{last(5, 0), told(6, 4)}, pair{take(5), ended(took(0, 5, 6, 9))})
	// behind all that was taken
	isPlay(t, 9, pair{come(0, 5), told(5, 4)}, pair{take(5), took(0, 5, 5, 9)}, pair{take(5), told(5, 9)}, pair{last(5, 0), told(6, 9)}, pair{take(5), ended(told(6, 9))})
	// behind a gap
	isPlay(t, 9, pair{come(3, 2), told(0, 9, 3, 5)}, pair{last(5, 0), told(0, 9, 3, 5)}, pair{come(0, 2), told(2, 7, 3, 5)}, pair{come(2, 1), told(6, 4)}, pair{take(4), took(0, 4, 6, 8)}, pair{take(4), ended(took(4, 1, 6, 9))})
	// just at taken and room
	isPlay(t, 9, pair{come(0, 64), told(9, 0)}, pair{last(9, 0), told(10, 0)}, pair{take(9), ended(took(0, 9, 10, 9))})
	// beyond them
	isPlay(t, 9, pair{come(0, 64), told(9, 0)}, pair{last(10, 0), told(9, 0)}, pair{take(9), took(0, 9, 9, 9)}, pair{come(9, 1), told(11, 8)}, pair{take(9), ended(took(9, 1, 11, 9))})
}

func TestFinWithDataThatCameAlready(t *testing.T) {
	isPlay(t, 9, pair{come(0, 5), told(5, 4)}, pair{last(2, 3), told(6, 4)}, pair{take(9), ended(took(0, 5, 6, 9))})
	isPlay(t, 9, pair{come(2, 3), told(0, 9, 2, 5)}, pair{last(2, 3), told(0, 9, 2, 5)}, pair{come(0, 6), refused(errState, 0, 9, 2, 5)}, pair{come(0, 2), told(6, 4)}, pair{take(9), ended(took(0, 5, 6, 9))})
	isPlay(t, 9, pair{come(0, 5), told(5, 4)}, pair{take(9), took(0, 5, 5, 9)}, pair{last(0, 5), told(6, 9)}, pair{take(0), ended(told(6, 9))})
	// some of it came
	isPlay(t, 9, pair{come(3, 3), told(0, 9, 3, 6)}, pair{last(1, 5), told(0, 9, 1, 6)}, pair{last(5, 1), told(0, 9, 1, 6)}, pair{come(0, 1), told(7, 3)}, pair{take(6), ended(took(0, 6, 7, 9))})
}

func TestFinWithDataOfWhichSomeIsDropped(t *testing.T) {
	isPlay(t, 9,
		pair{last(5, 10), told(0, 9, 5, 9)}, // the end is 15 then
		pair{come(15, 1), refused(errState, 0, 9, 5, 9)},
		pair{last(9, 0), refused(errState, 0, 9, 5, 9)},
		pair{come(0, 5), told(9, 0)}, // the end is not reached
		pair{take(9), took(0, 9, 9, 9)},
		pair{come(9, 5), told(14, 4)},
		pair{last(5, 10), told(16, 3)},
		pair{take(5), took(9, 5, 16, 8)},
		pair{take(1), ended(took(14, 1, 16, 9))},
	)
	// all of it
	isPlay(t, 9, pair{last(9, 3), told(0, 9)}, pair{come(0, 13), refused(errState, 0, 9)}, pair{come(0, 12), told(9, 0)}, pair{take(3), took(0, 3, 9, 3)}, pair{last(0, 12), told(13, 0)}, pair{take(9), ended(took(3, 9, 13, 9))})
	isPlay(t, 9, pair{last(0, 10), told(9, 0)}, pair{take(9), took(0, 9, 9, 9)}, pair{last(9, 1), told(11, 8)}, pair{take(9), ended(took(9, 1, 11, 9))})
	isPlay(t, 9, pair{last(4000, 64), told(0, 9)}, pair{last(4001, 63), told(0, 9)}, pair{last(4064, 0), told(0, 9)}, pair{come(4001, 64), refused(errState, 0, 9)}, pair{last(4063, 0), refused(errState, 0, 9)}, pair{come(0, 9), told(9, 0)})
}

func TestFinAgain(t *testing.T) {
	head := []pair{{come(0, 3), told(3, 17)}, {last(8, 4), told(3, 17, 8, 12)}}
	for from := range 22 {
		for n := range 10 {
			to := from + n
			p := pair{last(from, n), refused(errState, 3, 17, 8, 12)}
			if to == 12 { // at the same place
				p.want = told(3, 17, min(8, from), 12)
				if from <= 3 {
					p.want = told(13, 8)
				}
			}
			tail := []pair{p, {come(3, 5), told(13, 8)}, {take(12), ended(took(0, 12, 13, 20))}}
			isPlay(t, 20, with(head, tail...)...)
			isPlay(t, 20, with(head, append([]pair{p}, tail...)...)...)
		}
	}
}

func TestFinAheadOfPlacesThatCame(t *testing.T) {
	head := []pair{{come(0, 5), told(5, 15)}, {come(8, 2), told(5, 15, 8, 10)}, {come(13, 3), told(5, 15, 13, 16, 8, 10)}}
	for from := range 20 {
		for n := range 20 - from {
			if to := from + n; to < 16 {
				sacks := []int{13, 16, 8, 10}
				if from == 8 || from == 9 {
					sacks = []int{8, 10, 13, 16}
				}
				isPlay(t, 20, with(head, pair{last(from, n), refused(errState, 5, 15, sacks...)}, pair{last(16, 0), told(5, 15, 13, 16, 8, 10)}, pair{come(5, 8), told(17, 4)}, pair{take(99), ended(took(0, 16, 17, 20))})...)
			}
		}
	}
	// done alone
	isPlay(t, 20, pair{come(0, 5), told(5, 15)}, pair{last(4, 0), refused(errState, 5, 15)}, pair{last(0, 4), refused(errState, 5, 15)}, pair{take(9), took(0, 5, 5, 20)}, pair{last(4, 0), refused(errState, 5, 20)}, pair{last(5, 0), told(6, 20)})
	// one place at it
	isPlay(t, 20, pair{come(5, 1), told(0, 20, 5, 6)}, pair{last(5, 0), refused(errState, 0, 20, 5, 6)}, pair{last(0, 5), refused(errState, 0, 20, 5, 6)}, pair{take(9), told(0, 20, 5, 6)}, pair{last(6, 0), told(0, 20, 5, 6)})
	// what was dropped did not come
	isPlay(t, 20, pair{come(15, 9), told(0, 20, 15, 20)}, pair{last(19, 0), refused(errState, 0, 20, 15, 20)}, pair{last(20, 0), told(0, 20, 15, 20)}, pair{come(0, 15), told(21, 0)})
}

func TestBytesBehindTheEnd(t *testing.T) {
	for end := range 12 {
		head := []pair{{last(0, end), told(end+1, 20-end)}}
		for from := range 15 {
			for n := range 10 {
				want := told(end+1, 20-end)
				if from+n > end {
					want.Code = errState
				}
				isPlay(t, 20, with(head, pair{come(from, n), want}, pair{take(20), ended(took(0, end, end+1, 20))}, pair{come(from, n), as(want.Code, told(end+1, 20))})...)
			}
		}
	}
	isPlay(t, 20,
		pair{last(10, 2), told(0, 20, 10, 12)}, pair{come(12, 1), refused(errState, 0, 20, 10, 12)}, pair{come(11, 2), refused(errState, 0, 20, 10, 12)}, pair{come(0, 13), refused(errState, 0, 20, 10, 12)},
		pair{come(20, 1), refused(errState, 0, 20, 10, 12)}, pair{come(19, 5), refused(errState, 0, 20, 10, 12)}, pair{come(13, 0), refused(errState, 0, 20, 10, 12)}, pair{come(most-1, 0), refused(errState, 0, 20, 10, 12)}, // also where all would be dropped
		pair{come(12, 0), told(0, 20, 10, 12)}, pair{come(0, 12), told(13, 8)}, pair{take(20), ended(took(0, 12, 13, 20))},
	)
}

// P8.1: as many ranges as may be.

// holed: arrivals behind which n ranges of one place each are beyond done, from place 2 on.
func holed(room, n int) []pair {
	var p []pair
	var sacks []int
	for i := range n {
		sacks = append([]int{2 + 2*i, 3 + 2*i}, sacks...)
		p = append(p, pair{come(2+2*i, 1), told(0, room, sacks[:min(len(sacks), 2*blocks)]...)})
	}
	return p
}

func TestAsManyRangesAsMayBeAndOneMore(t *testing.T) {
	full := holed(50, holes) // the last one is at 32
	tops := []int{32, 33, 30, 31, 28, 29}
	for _, c := range []struct {
		arrival api.Arrival
		want    api.Told
	}{
		{come(34, 1), refused(errFull, 0, 50, tops...)},
		{come(34, 5), refused(errFull, 0, 50, tops...)},
		{come(48, 64), refused(errFull, 0, 50, tops...)}, // also where some of it would be dropped
		{come(49, 1), refused(errFull, 0, 50, tops...)},
		{last(34, 1), refused(errFull, 0, 50, tops...)},
		{last(40, 64), refused(errFull, 0, 50, tops...)},
		{come(50, 1), told(0, 50, tops...)}, // all is dropped
		{come(50, 64), told(0, 50, tops...)},
		{last(50, 64), told(0, 50, tops...)},
		{come(34, 0), told(0, 50, tops...)}, // there is nothing
		{last(34, 0), told(0, 50, tops...)},
		{come(32, 1), told(0, 50, tops...)}, // it came already
		{come(4, 1), told(0, 50, 4, 5, 32, 33, 30, 31)},
		{come(33, 1), told(0, 50, 32, 34, 30, 31, 28, 29)}, // touches the last one
		{come(32, 64), told(0, 50, 32, 50, 30, 31, 28, 29)},
		{come(3, 1), told(0, 50, 2, 5, 32, 33, 30, 31)}, // joins two
		{come(1, 1), told(0, 50, 1, 3, 32, 33, 30, 31)}, // touches the first one
		{come(0, 1), told(1, 49, tops...)},
		{come(0, 2), told(3, 47, tops...)},
		{come(0, 64), told(50, 0)},
		{come(20, 20), told(0, 50, 20, 40, 18, 19, 16, 17)},
	} {
		p := with(full, pair{c.arrival, c.want}, pair{c.arrival, c.want})
		if c.want.Code == errFull { // no byte came then, and no end is known
			p = append(p, pair{come(0, 34), told(34, 16)}, pair{come(40, 9), told(34, 16, 40, 49)}, pair{last(34, 16), told(51, 0)}, pair{take(99), ended(took(0, 50, 51, 50))})
		}
		isPlay(t, 50, p...)
	}
	// one joins two: there is room for one
	isPlay(t, 50, with(full, pair{come(3, 1), told(0, 50, 2, 5, 32, 33, 30, 31)}, pair{come(34, 1), told(0, 50, 34, 35, 32, 33, 30, 31)}, pair{come(36, 1), refused(errFull, 0, 50, 34, 35, 32, 33, 30, 31)})...)
	isPlay(t, 50, with(full, pair{come(0, 2), told(3, 47, tops...)}, pair{come(34, 1), told(3, 47, 34, 35, 32, 33, 30, 31)}, pair{come(36, 1), refused(errFull, 3, 47, 34, 35, 32, 33, 30, 31)})...)
	// Take makes no room for ranges
	isPlay(t, 50, with(full, pair{take(9), told(0, 50, tops...)}, pair{come(34, 1), refused(errFull, 0, 50, tops...)})...)
	for n := range holes {
		isPlay(t, 50, with(holed(50, n), pair{come(40, 1), told(0, 50, append([]int{40, 41}, sacksOf(n, blocks-1)...)...)})...)
	}
}

// sacksOf: the last ones of so many ranges of holed, from the last one on.
func sacksOf(n, told int) (out []int) {
	for i := n - 1; i >= 0 && i >= n-told; i-- {
		out = append(out, 2+2*i, 3+2*i)
	}
	return out
}

// P8.1: Take.

func TestTakeOfAllCounts(t *testing.T) {
	head := []pair{{come(0, 20), told(20, 30)}, {come(25, 5), told(20, 30, 25, 30)}}
	for n := range 60 { // up to done, and not beyond the gap
		d := min(n, 20)
		isPlay(t, 50, with(head, pair{take(n), took(0, d, 20, 30+d, 25, 30)}, pair{take(0), told(20, 30+d, 25, 30)}, pair{take(widest), took(d, 20-d, 20, 50, 25, 30)}, pair{take(n), told(20, 50, 25, 30)})...)
	}
	for _, n := range []int{widest - 1, widest} {
		isPlay(t, 50, with(head, pair{take(n), took(0, 20, 20, 50, 25, 30)})...)
	}
	for _, n := range noCounts() {
		isPlay(t, 50, with(head, pair{take(n), refused(errRange, 20, 30, 25, 30)}, pair{take(5), took(0, 5, 20, 35, 25, 30)}, pair{take(n), refused(errRange, 20, 35, 25, 30)}, pair{take(99), took(5, 15, 20, 50, 25, 30)}, pair{take(n), refused(errRange, 20, 50, 25, 30)})...)
	}
}

func TestTakeBitByBit(t *testing.T) {
	p := []pair{{last(0, 30), told(31, 10)}}
	for n := 1; n <= 30; n++ {
		x := took(n-1, 1, 31, 10+n)
		x.End = n == 30
		p = append(p, pair{take(1), x})
	}
	isPlay(t, 40, append(p, pair{take(1), ended(told(31, 40))}, pair{take(0), ended(told(31, 40))})...)
}

func TestTakeUpToTheEnd(t *testing.T) {
	for _, head := range [][]pair{
		{{last(0, 10), told(11, 10)}},
		{{come(0, 10), told(10, 10)}, {last(10, 0), told(11, 10)}},
		{{last(10, 0), told(0, 20)}, {come(0, 10), told(11, 10)}},
		{{last(5, 5), told(0, 20, 5, 10)}, {come(0, 5), told(11, 10)}},
	} {
		isPlay(t, 20, with(head, pair{take(10), ended(took(0, 10, 11, 20))}, pair{take(0), ended(told(11, 20))}, pair{take(9), ended(told(11, 20))})...)
		// an Arrive does not tell End
		isPlay(t, 20, with(head, pair{take(11), ended(took(0, 10, 11, 20))}, pair{take(widest), ended(told(11, 20))}, pair{come(0, 3), told(11, 20)}, pair{last(9, 1), told(11, 20)})...)
		isPlay(t, 20, with(head, pair{take(widest), ended(took(0, 10, 11, 20))}, pair{take(widest + 1), refused(errRange, 11, 20)}, pair{take(-1), refused(errRange, 11, 20)}, pair{odd(9), refused(errKind, 11, 20)}, pair{take(1), ended(told(11, 20))})...)
		isPlay(t, 20, with(head, pair{take(9), took(0, 9, 11, 19)}, pair{take(0), told(11, 19)}, pair{take(1), ended(took(9, 1, 11, 20))})...)
	}
	// no end is known
	isPlay(t, 20, pair{come(0, 10), told(10, 10)}, pair{take(10), took(0, 10, 10, 20)}, pair{take(0), told(10, 20)})
	// known, but not all ahead of it came
	isPlay(t, 20, pair{come(0, 10), told(10, 10)}, pair{last(12, 0), told(10, 10)}, pair{take(10), took(0, 10, 10, 20)}, pair{take(9), told(10, 20)}, pair{come(10, 2), told(13, 18)}, pair{take(2), ended(took(10, 2, 13, 20))})
}

func TestTakeOfAsManyAsMayBe(t *testing.T) {
	var p []pair
	for n := range widest / packet {
		p = append(p, pair{come(n*packet, packet), told((n+1)*packet, widest-(n+1)*packet)})
	}
	isPlay(t, widest, with(p, pair{take(widest + 1), refused(errRange, widest, 0)}, pair{take(widest - 1), took(0, widest-1, widest, widest-1)}, pair{take(widest), took(widest-1, 1, widest, widest)})...)
	isPlay(t, widest, with(p, pair{last(widest, 0), told(widest+1, 0)}, pair{take(widest), ended(took(0, widest, widest+1, widest))})...)
}

// P8.1: Ack, Window and Sacks beside each.

func TestAckAndWindowWithTheWindowShut(t *testing.T) {
	isPlay(t, 8,
		pair{come(0, 64), told(8, 0)}, pair{come(8, 1), told(8, 0)}, pair{come(0, 65), refused(errSize, 8, 0)}, pair{come(-1, 1), refused(errRange, 8, 0)}, pair{last(7, 0), refused(errState, 8, 0)},
		pair{take(-1), refused(errRange, 8, 0)}, pair{take(0), told(8, 0)}, pair{odd(0), refused(errKind, 8, 0)}, pair{last(8, 0), told(9, 0)},
		pair{come(8, 1), refused(errState, 9, 0)}, pair{take(widest + 1), refused(errRange, 9, 0)}, pair{odd(3), refused(errKind, 9, 0)},
		pair{take(3), took(0, 3, 9, 3)}, pair{take(9), ended(took(3, 5, 9, 8))},
	)
}

func TestSacksOfMoreRangesThanAreTold(t *testing.T) {
	head := with(holed(50, 5)) // 2, 4, 6, 8 and 10
	tops := []int{10, 11, 8, 9, 6, 7}
	for _, c := range []struct {
		arrival api.Arrival
		want    api.Told
	}{
		{come(2, 1), told(0, 50, 2, 3, 10, 11, 8, 9)}, // the last place that came first, also if it came again
		{other(4, 1), told(0, 50, 4, 5, 10, 11, 8, 9)},
		{come(6, 1), told(0, 50, 6, 7, 10, 11, 8, 9)},
		{come(8, 1), told(0, 50, 8, 9, 10, 11, 6, 7)},
		{come(10, 1), told(0, 50, tops...)},
		{come(12, 1), told(0, 50, 12, 13, 10, 11, 8, 9)},
		{come(3, 1), told(0, 50, 2, 5, 10, 11, 8, 9)}, // in the midst of what it joins
		{come(1, 4), told(0, 50, 1, 5, 10, 11, 8, 9)},
		{come(5, 4), told(0, 50, 4, 9, 10, 11, 2, 3)},
		{come(3, 0), told(0, 50, tops...)}, // no range has it
		{come(4, 0), told(0, 50, 4, 5, 10, 11, 8, 9)},
		{come(0, 1), told(1, 49, tops...)}, // it is ahead of done then
		{come(0, 5), told(5, 45, tops...)},
		{come(0, 7), told(7, 43, 10, 11, 8, 9)},
		{come(4, 65), refused(errSize, 0, 50, 4, 5, 10, 11, 8, 9)}, // whatever its Code
		{last(2, 1), refused(errState, 0, 50, 2, 3, 10, 11, 8, 9)},
		{last(5, 5), refused(errState, 0, 50, tops...)},
		{come(most, 0), refused(errRange, 0, 50, tops...)},
		{come(-1, 1), refused(errRange, 0, 50, tops...)},
		{come(50, 1), told(0, 50, tops...)}, // dropped
		{take(0), told(0, 50, tops...)},     // none of a Take
		{take(4), told(0, 50, tops...)},
		{take(-1), refused(errRange, 0, 50, tops...)},
		{take(widest + 1), refused(errRange, 0, 50, tops...)},
	} {
		isPlay(t, 50, with(head, pair{c.arrival, c.want}, pair{c.arrival, c.want})...)
	}
	for _, kind := range []int{kindTake, 0, 3, -1} { // From stands in one of the ranges, but it is no Arrive
		a := api.Arrival{Kind: kind, From: 4, Data: text(4, 1)}
		want := told(0, 50, tops...)
		if kind != kindTake {
			want.Code = errKind
		}
		isList(t, 50, append(arrivals(head), a), append(wants(head), want))
	}
}

func arrivals(l []pair) (out []api.Arrival) {
	for _, p := range l {
		out = append(out, p.arrival)
	}
	return out
}

func wants(l []pair) (out []api.Told) {
	for _, p := range l {
		out = append(out, p.want)
	}
	return out
}

func TestSacksBehindATake(t *testing.T) {
	isPlay(t, 20,
		pair{come(0, 4), told(4, 16)}, pair{come(6, 1), told(4, 16, 6, 7)}, pair{come(8, 1), told(4, 16, 8, 9, 6, 7)}, pair{come(10, 1), told(4, 16, 10, 11, 8, 9, 6, 7)}, pair{come(12, 1), told(4, 16, 12, 13, 10, 11, 8, 9)},
		pair{come(6, 1), told(4, 16, 6, 7, 12, 13, 10, 11)},
		pair{take(2), took(0, 2, 4, 18, 12, 13, 10, 11, 8, 9)}, // 6 is the last place no more
		pair{come(6, 1), told(4, 18, 6, 7, 12, 13, 10, 11)},
		pair{take(9), took(2, 2, 4, 20, 12, 13, 10, 11, 8, 9)},
		pair{take(9), told(4, 20, 12, 13, 10, 11, 8, 9)},
		pair{come(4, 5), told(9, 15, 12, 13, 10, 11)},
		pair{take(9), took(4, 5, 9, 20, 12, 13, 10, 11)},
	)
}

// P8.1: wrong kinds, and what is refused.

func TestNoSuchKind(t *testing.T) {
	for kind := -300; kind <= 600; kind++ {
		if kind != kindArrive && kind != kindTake {
			isList(t, 9, []api.Arrival{{Kind: kind}}, []api.Told{refused(errKind, 0, 9)})
		}
	}
	for _, kind := range noKinds() {
		no := func(x api.Told) pair { return pair{odd(kind), as(errKind, x)} }
		isPlay(t, 20, no(told(0, 20)), pair{come(0, 5), told(5, 15)}, no(told(5, 15)), pair{last(12, 3), told(5, 15, 12, 15)}, no(told(5, 15, 12, 15)), pair{take(3), took(0, 3, 5, 18, 12, 15)}, no(told(5, 18, 12, 15)),
			pair{come(5, 7), told(16, 8)}, no(told(16, 8)), pair{take(99), ended(took(3, 12, 16, 20))}, no(told(16, 20)))
	}
}

// refusals: arrivals that are refused with 12 ranges of one place each from 6 on, done 3, and 1 taken of room for 60: Ack 3, Window 58.
func refusals() []pair {
	no := func(a api.Arrival, code api.Errno) pair {
		sacks := []int{28, 29, 26, 27, 24, 25}
		if a.Kind == kindArrive && a.From == 6 {
			sacks = []int{6, 7, 28, 29, 26, 27}
		}
		return pair{a, refused(code, 3, 58, sacks...)}
	}
	return []pair{
		no(api.Arrival{}, errKind), no(odd(3), errKind), no(odd(-1), errKind),
		no(come(-1, 1), errRange), no(come(-1, 64), errRange), no(last(-5, 5), errRange), no(come(most, 0), errRange), no(come(most-64, 64), errRange), no(last(most-1, 1), errRange), no(last(math.MaxInt64, 5), errRange), no(last(math.MinInt64, 5), errRange),
		no(come(3, 65), errSize), no(last(3, 65), errSize), no(other(6, 65), errSize),
		no(last(3, 0), errState), no(last(6, 0), errState), no(last(1, 1), errState), no(last(3, 25), errState), no(last(2, 0), errState),
		no(take(-1), errRange), no(take(widest+1), errRange), no(take(math.MinInt64), errRange), no(take(math.MaxInt64), errRange),
	}
}

// before: what refusals stand behind.
func before() []pair {
	head := []pair{{come(0, 3), told(3, 57)}, {take(1), took(0, 1, 3, 58)}}
	for i := range 12 {
		sacks := []int{6 + 2*i, 7 + 2*i}
		for k := i - 1; k >= 0 && k > i-blocks; k-- {
			sacks = append(sacks, 6+2*k, 7+2*k)
		}
		head = append(head, pair{come(6+2*i, 1), told(3, 58, sacks...)})
	}
	return head
}

// TestWhatIsRefusedDoesNothingElse: in the midst, and as the last one.
func TestWhatIsRefusedDoesNothingElse(t *testing.T) {
	tail := []pair{{come(3, 26), told(29, 32)}, {last(31, 9), told(29, 32, 31, 40)}, {come(29, 2), told(41, 21)}, {take(99), ended(took(1, 39, 41, 60))}}
	for _, p := range refusals() {
		isPlay(t, 60, with(with(before(), p, p), tail...)...)
	}
	isPlay(t, 60, with(with(before(), refusals()...), tail...)...)
}

func TestWhatIsRefusedWithTheEndKnown(t *testing.T) {
	head := []pair{{come(0, 3), told(3, 17)}, {last(8, 4), told(3, 17, 8, 12)}}
	tail := []pair{{take(1), took(0, 1, 3, 18, 8, 12)}, {come(3, 5), told(13, 9)}, {take(99), ended(took(1, 11, 13, 20))}}
	var all []pair
	for _, c := range []struct {
		arrival api.Arrival
		code    api.Errno
	}{
		{come(12, 1), errState}, {come(0, 13), errState}, {come(13, 0), errState}, {last(12, 1), errState}, {last(3, 8), errState}, {last(11, 0), errState}, {last(8, 3), errState}, {last(13, 0), errState}, {last(0, 0), errState}, {come(10000, 64), errState}, {last(most-1, 0), errState},
		{come(most, 0), errRange}, {last(-1, 13), errRange}, {last(most-12, 12), errRange}, {come(12, 65), errSize}, {last(3, 65), errSize}, {take(-1), errRange}, {take(widest + 1), errRange}, {api.Arrival{}, errKind}, {odd(3), errKind},
	} {
		p := pair{c.arrival, refused(c.code, 3, 17, 8, 12)}
		isPlay(t, 20, with(with(head, p, p), tail...)...)
		all = append(all, p)
	}
	isPlay(t, 20, with(with(head, all...), tail...)...)
}

func TestWhatIsRefusedAsTheFirstOne(t *testing.T) {
	for _, c := range []struct {
		arrival api.Arrival
		code    api.Errno
	}{
		{come(-1, 1), errRange}, {come(most, 0), errRange}, {come(most-5, 5), errRange}, {last(most-5, 5), errRange}, {come(0, 65), errSize}, {last(0, 65), errSize}, {last(500, 65), errSize}, {take(-1), errRange}, {take(widest + 1), errRange}, {api.Arrival{}, errKind}, {odd(3), errKind}, {odd(-2), errKind},
	} {
		isPlay(t, 9, pair{c.arrival, refused(c.code, 0, 9)}, pair{come(3, 5), told(0, 9, 3, 8)}, pair{last(0, 9), told(10, 0)}, pair{take(9), ended(took(0, 9, 10, 9))})
	}
}

// TestWhichErrorIsToldFirst: where two or more of them apply to an Arrive.
func TestWhichErrorIsToldFirst(t *testing.T) {
	for _, c := range []struct {
		arrival api.Arrival
		code    api.Errno
	}{
		{come(-1, 65), errRange}, {come(most, 65), errRange}, {come(most-65, 65), errRange}, {come(most-64, 65), errRange}, {come(most-66, 65), errSize}, // and ErrSize
		{come(math.MaxInt64, 65), errRange}, {come(math.MinInt64, 65), errRange}, {come(5, most), errRange}, {come(5, most-5), errRange}, {come(5, most-6), errSize},
	} {
		isPlay(t, 100, pair{c.arrival, refused(c.code, 0, 100)}, pair{come(0, 9), told(9, 91)})
		isPlay(t, 100, pair{last(9, 0), told(0, 100)}, pair{c.arrival, refused(c.code, 0, 100)}) // and ErrState
	}
	isPlay(t, 100, pair{last(9, 0), told(0, 100)}, pair{last(-1, 1), refused(errRange, 0, 100)}, pair{last(-1, 10), refused(errRange, 0, 100)}, pair{come(most, 0), refused(errRange, 0, 100)}, pair{last(most, 0), refused(errRange, 0, 100)},
		pair{come(0, 65), refused(errSize, 0, 100)}, pair{last(0, 65), refused(errSize, 0, 100)}, pair{last(9, 65), refused(errSize, 0, 100)}, pair{come(500, 65), refused(errSize, 0, 100)})
	full := holed(200, holes) // the last one is at 32
	tops := []int{32, 33, 30, 31, 28, 29}
	isPlay(t, 200, with(full, // and ErrFull
		pair{come(34, 1), refused(errFull, 0, 200, tops...)}, pair{come(34, 65), refused(errSize, 0, 200, tops...)}, pair{last(34, 65), refused(errSize, 0, 200, tops...)}, pair{come(most-1, 1), refused(errRange, 0, 200, tops...)},
		pair{last(35, 5), refused(errFull, 0, 200, tops...)}, pair{last(40, 0), told(0, 200, tops...)},
		pair{come(34, 1), refused(errFull, 0, 200, tops...)}, pair{come(34, 6), refused(errFull, 0, 200, tops...)}, pair{last(34, 6), refused(errFull, 0, 200, tops...)},
		pair{come(34, 7), refused(errState, 0, 200, tops...)}, pair{last(34, 1), refused(errState, 0, 200, tops...)}, pair{last(34, 7), refused(errState, 0, 200, tops...)}, pair{come(50, 1), refused(errState, 0, 200, tops...)},
		pair{come(34, 65), refused(errSize, 0, 200, tops...)}, pair{last(34, 65), refused(errSize, 0, 200, tops...)}, pair{last(most-5, 65), refused(errRange, 0, 200, tops...)},
	)...)
}

func TestNumbersBeyondAllBounds(t *testing.T) {
	head := []pair{{come(0, 5), told(5, 15)}, {come(7, 2), told(5, 15, 7, 9)}}
	tail := []pair{{take(2), took(0, 2, 5, 17, 7, 9)}, {last(9, 3), told(5, 17, 7, 12)}, {come(5, 2), told(13, 10)}, {take(99), ended(took(2, 10, 13, 20))}}
	for _, a := range far() {
		p := with(head, pair{take(a), refused(errRange, 5, 15, 7, 9)})
		for _, n := range []int{0, 1, 64, 65} {
			p = append(p, pair{come(a, n), refused(errRange, 5, 15, 7, 9)}, pair{last(a, n), refused(errRange, 5, 15, 7, 9)})
		}
		isPlay(t, 20, append(p, tail...)...)
		for _, b := range far() {
			l := []api.Arrival{{Kind: kindArrive, From: a, Data: text(0, 5), Count: b}, {Kind: kindTake, From: a, Data: text(0, 5), Fin: true, Count: b}, {Kind: a, From: b, Count: a}}
			isList(t, 20, l, []api.Told{refused(errRange, 0, 20), refused(errRange, 0, 20), refused(errKind, 0, 20)})
			isCode(t, a, l, errRange)
		}
	}
}

// The model: what is known of each place alone. It knows no ranges: they are read out of it.
type model struct {
	room  int
	came  []place
	taken int
	end   int // -1: it is not known
}

type place struct {
	came bool
	data byte
}

func newModel(room int) model { return model{room: room, end: -1} }

func (m *model) has(p int) bool { return p < len(m.came) && m.came[p].came }

func (m *model) done() int {
	p := 0
	for m.has(p) {
		p++
	}
	return p
}

func (m *model) act(a api.Arrival) api.Told {
	x := api.Told{}
	from := -1
	switch a.Kind {
	case kindArrive:
		from = a.From
		x.Code = m.arrive(a)
	case kindTake:
		if a.Count < 0 || a.Count > widest {
			x.Code = errRange
			break
		}
		for range a.Count {
			if m.has(m.taken) {
				x.Data = append(x.Data, m.came[m.taken].data)
				m.taken++
			}
		}
		x.End = m.taken == m.end
	default:
		x.Code = errKind
	}
	done := m.done()
	x.Ack, x.Window = done, m.taken+m.room-done
	if done == m.end {
		x.Ack = done + 1
	}
	x.Sacks = m.sacks(from)
	return x
}

func (m *model) arrive(a api.Arrival) api.Errno {
	if a.From < 0 || a.From >= most || a.From+len(a.Data) >= most {
		return errRange
	}
	if len(a.Data) > packet {
		return errSize
	}
	end := a.From + len(a.Data)
	if m.end >= 0 && (end > m.end || a.Fin && end != m.end) {
		return errState
	}
	for p := end; a.Fin && p < len(m.came); p++ {
		if m.has(p) {
			return errState
		}
	}
	next := *m
	next.came = make([]place, m.taken+m.room)
	copy(next.came, m.came)
	for i, b := range a.Data {
		if p := a.From + i; p < len(next.came) && !next.came[p].came {
			next.came[p] = place{true, b}
		}
	}
	if len(next.ranges()) > holes {
		return errFull
	}
	if a.Fin {
		next.end = end
	}
	*m = next
	return ok
}

// ranges: what came beyond done, from the last one on.
func (m *model) ranges() []api.Range {
	var out []api.Range
	done := m.done()
	for p := len(m.came); p > done; p-- {
		switch {
		case !m.has(p - 1):
		case m.has(p):
			out[len(out)-1].From = p - 1
		default:
			out = append(out, api.Range{From: p - 1, To: p})
		}
	}
	return out
}

func (m *model) sacks(from int) []api.Range {
	l := m.ranges()
	slices.SortStableFunc(l, func(a, b api.Range) int {
		in := func(r api.Range) int {
			if r.From <= from && from < r.To {
				return 0
			}
			return 1
		}
		return in(a) - in(b)
	})
	return l[:min(len(l), blocks)]
}

func TestAllShortLists(t *testing.T) {
	alphabet := []api.Arrival{come(0, 2), other(1, 2), come(4, 2), last(2, 2), last(5, 0), come(3, 9), come(6, 1), take(0), take(3)}
	for _, room := range []int{1, 4, 7} {
		var walk func(m model, l []api.Arrival, want []api.Told)
		walk = func(m model, l []api.Arrival, want []api.Told) {
			if len(l) == 5 {
				isList(t, room, l, want)
				return
			}
			for _, a := range alphabet {
				next := m // its places are not changed, but made anew
				x := next.act(a)
				walk(next, append(l[:len(l):len(l)], a), append(want[:len(want):len(want)], x))
			}
		}
		walk(newModel(room), nil, nil)
	}
}

// dice: numbers that look as if by chance, the same ones each time.
func dice(seed uint32) func(n int) int {
	return func(n int) int {
		seed = seed*1664525 + 1013904223
		return int(seed>>8) % n
	}
}

// chanceArrival: an arrival that mostly may be, after what the model knows.
func chanceArrival(m *model, chance func(n int) int, end int) api.Arrival {
	done := m.done()
	near := func(wide int) int { return max(0, done+chance(wide+20)-20) }
	fit := func(a api.Arrival) api.Arrival { // ahead of the end, if there is one
		a.Data = a.Data[:max(0, min(len(a.Data), end-a.From))]
		a.Fin = a.From+len(a.Data) == end && chance(2) == 0
		return a
	}
	switch k := chance(40); {
	case k < 6:
		return take(chance(90))
	case k == 6:
		return litter(api.Arrival{Kind: []int{-1, 0, 3, kindTake, kindTake}[chance(5)], Count: chance(9) - 4}, chance(35))
	case k == 7: // mostly refused
		a := come(near(m.room+9)+chance(9)-4, chance(80))
		a.Fin = chance(2) == 0
		return a
	case k == 8:
		return fit(other(near(m.room), chance(packet+1)))
	case k < 12: // what fills the first gap
		return fit(come(done, 1+chance(packet)))
	case k < 28: // small ones, so that there are many ranges
		return fit(come(near(m.room), 1+chance(3)))
	default:
		return fit(come(near(m.room), chance(packet+1)))
	}
}

// mixed: so many arrivals, and what the model says of them.
func mixed(room, n int, chance func(n int) int, end int) ([]api.Arrival, []api.Told) {
	m := newModel(room)
	var l []api.Arrival
	var want []api.Told
	for range n {
		a := chanceArrival(&m, chance, end)
		l, want = append(l, a), append(want, m.act(a))
	}
	return l, want
}

func TestLongLists(t *testing.T) {
	codes := map[api.Errno]int{}
	ends := 0
	for n := range 600 {
		chance := dice(uint32(n))
		room := []int{1, 20, 64, 150, 500, widest}[n%6]
		end := []int{most, 400, 50}[n/6%3]
		l, want := mixed(room, events, chance, end)
		isList(t, room, l, want)
		for _, x := range want {
			codes[x.Code]++
			if x.End {
				ends++
			}
		}
	}
	for _, code := range []api.Errno{ok, errSize, errRange, errKind, errFull, errState} {
		if codes[code] == 0 {
			t.Errorf("none came to %d", code)
		}
	}
	if ends == 0 {
		t.Error("none came to its end")
	}
}

// What comes of it.

// isStream: what is taken by these arrivals, with all that can be taken behind them, is the stream.
func isStream(t *testing.T, room, size int, l []api.Arrival) {
	t.Helper()
	l = append(slices.Clone(l), take(widest))
	got, code := recv.Play(room, l)
	if code != ok || len(got) != len(l) {
		t.Fatalf("Play(%d, %q): %d told, %d", room, sketches(l), len(got), code)
	}
	var all []byte
	for _, x := range got {
		all = append(all, x.Data...)
	}
	x := got[len(got)-1]
	if !bytes.Equal(all, text(0, size)) || x.Ack != size+1 || x.Window != room || len(x.Sacks) != 0 || !x.End {
		t.Fatalf("Play(%d, %q): %d bytes, %s; want all %d bytes of the stream", room, sketches(l), len(all), show(x), size)
	}
}

func TestPiecesInAllOrders(t *testing.T) {
	pieces := []api.Arrival{come(0, 10), come(10, 20), come(25, 10), come(35, 5), last(38, 7)}
	var walk func(l []api.Arrival, left []api.Arrival)
	walk = func(l []api.Arrival, left []api.Arrival) {
		if len(left) == 0 {
			isStream(t, 45, 45, l)
			isStream(t, 45, 45, append(slices.Clone(l), l...))
			var twice []api.Arrival
			for _, a := range l {
				twice = append(twice, a, take(4), a)
			}
			isStream(t, 60, 45, twice)
		}
		for i, a := range left {
			walk(append(l[:len(l):len(l)], a), slices.Delete(slices.Clone(left), i, i+1))
		}
	}
	walk(nil, pieces)
}

// TestWhateverComesIsTheStream: as if by chance, until all came and is taken.
func TestWhateverComesIsTheStream(t *testing.T) {
	const size = 300
	for n := range 200 {
		chance := dice(uint32(n))
		room := []int{60, 100, 299, 300, widest}[n%5]
		var l []api.Arrival
		for range 200 {
			from := chance(size + 1)
			a := come(from, min(chance(packet+1), size-from))
			a.Fin = from+len(a.Data) == size
			l = append(l, a)
			if chance(3) == 0 {
				l = append(l, take(chance(100)))
			}
		}
		l = l[:min(len(l), events-20)]
		for from := 0; from < size; from += 50 { // and the rest
			l = append(l, take(widest), come(from, 50))
		}
		isStream(t, room, size, append(l, take(widest), last(size, 0)))
	}
}

// What holds everywhere.

// lists: arrivals of all kinds, some of which are refused.
func lists() [][]api.Arrival {
	out := [][]api.Arrival{nil, {}, {take(0)}, {come(0, 64), come(70, 64), take(9), come(64, 6), last(134, 5), take(0), take(99), take(99)}, {come(-1, 9), {}, take(-1), come(0, 65)}, slices.Repeat([]api.Arrival{come(0, 3)}, events+1), arrivals(append(before(), refusals()...))}
	for n := range 30 {
		l, _ := mixed(200, 60, dice(uint32(n+7)), []int{most, 300}[n%2])
		out = append(out, l)
	}
	return out
}

// roomy: the same arrivals, with spare room behind the list, and behind each list in it.
func roomy(l []api.Arrival) []api.Arrival {
	out := make([]api.Arrival, 0, len(l)+5)
	for _, a := range l {
		a.Data = append(slices.Clone(a.Data), text(99, 200)...)[:len(a.Data)]
		out = append(out, a)
	}
	copy(out[len(out):cap(out)], []api.Arrival{{Kind: 77, From: 78}, {Kind: 79, Count: 80}, {Data: text(1, 3), Fin: true}})
	return out
}

// whole: all that stands in arrivals, in spare room, too.
func whole(l []api.Arrival) string {
	var s []byte
	for _, a := range l[:cap(l)] {
		s = fmt.Appendln(s, a.Kind, a.From, a.Data[:cap(a.Data)], len(a.Data), a.Fin, a.Count)
	}
	return string(s)
}

// answers: what these arrivals come to, as one text.
func answers(room int, l []api.Arrival) string { return shows(recv.Play(room, l)) }

func TestWhatIsHandedInIsNotChanged(t *testing.T) {
	for _, l := range lists() {
		l = roomy(l)
		before := whole(l)
		recv.Play(200, l)
		if whole(l) != before {
			t.Fatalf("%q: changed", sketches(l))
		}
	}
}

// scrawl: over the lists of one that is told, in spare room, too.
func scrawl(x api.Told) {
	for i := range x.Data[:cap(x.Data)] {
		x.Data[:cap(x.Data)][i] ^= 0xff
	}
	for i := range x.Sacks[:cap(x.Sacks)] {
		x.Sacks[:cap(x.Sacks)][i] = api.Range{From: -7, To: -8}
	}
}

func TestWhatComesOutIsNewMemory(t *testing.T) {
	for _, l := range lists() {
		l = roomy(l)
		before := whole(l)
		want := answers(200, l)
		one, _ := recv.Play(200, l)
		two, code := recv.Play(200, l)
		for i := range one {
			scrawl(one[i])
		}
		for i := range one[:cap(one)] {
			one[:cap(one)][i] = api.Told{Code: 99, Ack: 98, Window: 97}
		}
		if shows(two, code) != want || answers(200, l) != want || whole(l) != before {
			t.Fatalf("%q: an answer shares memory with another one, or with what was handed in", sketches(l))
		}
	}
}

func TestNoTwoListsOfOneAnswerShareMemory(t *testing.T) {
	for _, l := range lists() {
		got, _ := recv.Play(200, l)
		for i := range got {
			before := make([]string, len(got))
			for j := range got {
				before[j] = show(got[j])
			}
			scrawl(got[i])
			for j := range got {
				if j != i && show(got[j]) != before[j] {
					t.Fatalf("%q: lists of %d and %d share memory", sketches(l), i, j)
				}
			}
		}
	}
}

func TestWhatIsHandedInIsNotKept(t *testing.T) {
	for _, l := range lists() {
		l = roomy(l)
		want := answers(200, l)
		got, code := recv.Play(200, l)
		for i := range l {
			for k := range l[i].Data[:cap(l[i].Data)] {
				l[i].Data[:cap(l[i].Data)][k] ^= 0xff
			}
			l[i] = api.Arrival{}
		}
		if shows(got, code) != want {
			t.Fatal("an answer changed with what was handed in")
		}
	}
}

func TestAnswersHangOnArgumentsAlone(t *testing.T) {
	all := lists()
	var want []string
	for _, l := range all {
		want = append(want, answers(200, l))
	}
	for i, l := range slices.Backward(all) {
		if answers(200, l) != want[i] {
			t.Fatalf("%q: asked again, another answer", sketches(l))
		}
	}
	var hands sync.WaitGroup
	for range 4 {
		hands.Go(func() {
			for i, l := range all {
				if answers(200, l) != want[i] {
					t.Error("asked at the same time, another answer")
				}
			}
		})
	}
	hands.Wait()
}
