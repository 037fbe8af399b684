package pipe_test

import (
	"bytes"
	"fmt"
	"math"
	"slices"
	"sync"
	"testing"

	"packthread/api"
	"packthread/pipe"
	"packthread/recv"
	"packthread/send"
)

// The limits, the kinds and the numbers of errors, written out: they must not move with the program.
const (
	round   = 65536   // serial numbers
	most    = 1048576 // places of a stream
	widest  = 4096    // bytes of room, of one Give, and of one Drain
	packet  = 64      // bytes of a frame of Send
	events  = 300
	holes   = 16
	blocks  = 3
	head    = 10 // bytes of a frame ahead of Sacks and Data
	perSack = 4

	kindGive   = 1
	kindShut   = 2
	kindSend   = 3
	kindHit    = 4
	kindCarry  = 5
	kindReturn = 6
	kindExpire = 7
	kindDrain  = 8

	ok       = api.Errno(0)
	errSize  = api.Errno(1)
	errRange = api.Errno(2)
	errKind  = api.Errno(3)
	errSum   = api.Errno(6)
	errNone  = api.Errno(7)
	errTwice = api.Errno(8)
	errFull  = api.Errno(9)
	errState = api.Errno(10)
)

// text: n bytes of the stream from a place on; each place has its own look for a long way.
func text(from, n int) []byte {
	b := make([]byte, n)
	for i := range b {
		p := from + i
		b[i] = byte(p*37 + p>>8*11 + p>>16*5 + 3)
	}
	return b
}

// pair: a hop, and what it should come to.
type pair struct {
	hop  api.Hop
	want api.Passed
}

// Hops.

var (
	shut   = api.Hop{Kind: kindShut}
	send1  = api.Hop{Kind: kindSend}
	expire = api.Hop{Kind: kindExpire}
)

// give: n bytes of the stream, from a place on.
func give(from, n int) api.Hop { return api.Hop{Kind: kindGive, Data: text(from, n)} }

func hit(id, at int, by byte) api.Hop { return api.Hop{Kind: kindHit, Id: id, At: at, By: by} }

func carry(id int) api.Hop { return api.Hop{Kind: kindCarry, Id: id} }

func back(id int) api.Hop { return api.Hop{Kind: kindReturn, Id: id} }

func drain(n int) api.Hop { return api.Hop{Kind: kindDrain, Count: n} }

// What hops come to.

var done = api.Passed{} // nothing is told

func left(n int) api.Passed { return api.Passed{Left: n} }

func refused(code api.Errno) api.Passed { return api.Passed{Code: code} }

// short: refused, with what is left beside it.
func short(code api.Errno, left int) api.Passed { return api.Passed{Code: code, Left: left} }

// put: the frame that an arrival is answered with.
func put(id int) api.Passed { return api.Passed{Put: true, Id: id} }

// sent: a frame of Send.
func sent(id, left int) api.Passed { return api.Passed{Put: true, Id: id, Left: left} }

// drained: n bytes of the stream, from a place on, and the frame that this is answered with.
func drained(id, from, n int) api.Passed { return api.Passed{Put: true, Id: id, Data: text(from, n)} }

// ended: and that was all.
func ended(x api.Passed) api.Passed {
	x.End = true
	return x
}

// sized: the frame id has n bytes. (To be hit it must not have been hit.)
func sized(id, n int) []pair {
	return []pair{{hit(id, n, 1), refused(errRange)}, {hit(id, n-1, 0), done}, {hit(id, n-1, 1), refused(errTwice)}}
}

// same: whether two of what hops come to are alike; without bytes Data may be nil or not.
func same(a, b api.Passed) bool {
	return a.Code == b.Code && a.Put == b.Put && a.Id == b.Id && bytes.Equal(a.Data, b.Data) && a.End == b.End && a.Left == b.Left
}

func show(x api.Passed) string {
	return fmt.Sprintf("{Code %d Put %v Id %d Data %v End %v Left %d}", x.Code, x.Put, x.Id, x.Data, x.End, x.Left)
}

func shows(l []api.Passed, code api.Errno) string {
	s := fmt.Sprint(int(code))
	for _, x := range l {
		s += show(x)
	}
	return s
}

// sketch: a hop, with as many bytes instead of which ones.
func sketch(h api.Hop) string {
	switch h.Kind {
	case kindGive:
		return fmt.Sprintf("Give %d", len(h.Data))
	case kindShut:
		return "Shut"
	case kindSend:
		return "Send"
	case kindHit:
		return fmt.Sprintf("Hit %d at %d by %d", h.Id, h.At, h.By)
	case kindCarry:
		return fmt.Sprintf("Carry %d", h.Id)
	case kindReturn:
		return fmt.Sprintf("Return %d", h.Id)
	case kindExpire:
		return "Expire"
	case kindDrain:
		return fmt.Sprintf("Drain %d", h.Count)
	}
	return fmt.Sprintf("Kind %d", h.Kind)
}

func sketches(l []api.Hop) (out []string) {
	for _, h := range l {
		out = append(out, sketch(h))
	}
	return out
}

// firsts: serial numbers of the first place: the least and the greatest one, about the half, and where the serials of a stream come round soon.
func firsts() []int { return []int{0, 1, 32767, 32768, 65520, 65534, 65535} }

// isList: these hops come to what is wanted.
func isList(t *testing.T, first, room int, l []api.Hop, want []api.Passed) {
	t.Helper()
	got, code := pipe.Play(api.Line{First: first, Room: room}, l)
	if code != ok || len(got) != len(want) {
		t.Fatalf("Play(%d, %d, %q): %d told, %d; want %d", first, room, sketches(l), len(got), code, len(want))
	}
	for i := range got {
		if !same(got[i], want[i]) {
			t.Fatalf("Play(%d, %d, %q), at %d: %s, want %s", first, room, sketches(l[:i+1]), i, show(got[i]), show(want[i]))
		}
	}
}

// isPlay: each hop comes to what stands beside it, from whichever serial number on, also when nothing follows, and whatever stands in what its kind does not have.
func isPlay(t *testing.T, room int, pairs ...pair) {
	t.Helper()
	var l, littered []api.Hop
	var want []api.Passed
	for i, p := range pairs {
		isList(t, firsts()[i%len(firsts())], room, l, want)
		l, want = append(l, p.hop), append(want, p.want)
		littered = append(littered, litter(p.hop, i))
	}
	for _, first := range firsts() {
		isList(t, first, room, l, want)
		isList(t, first, room, littered, want)
	}
}

// litter: a hop with odd things in all that its kind does not have.
func litter(h api.Hop, n int) api.Hop {
	odd := []int{math.MinInt64, -1, 1, 0, 70000, math.MaxInt64}[n%6]
	if h.Kind != kindGive {
		h.Data = make([]byte, widest*2*(n%2)+n%9)
	}
	if h.Kind != kindHit && h.Kind != kindCarry && h.Kind != kindReturn {
		h.Id = odd
	}
	if h.Kind != kindHit {
		h.At, h.By = odd, byte(n*7)
	}
	if h.Kind != kindDrain {
		h.Count = odd
	}
	return h
}

// isCode: all of these hops together come to this code, and nothing is told beside that.
func isCode(t *testing.T, first, room int, l []api.Hop, want api.Errno) {
	t.Helper()
	if got, code := pipe.Play(api.Line{First: first, Room: room}, l); code != want || len(got) != 0 {
		t.Fatalf("Play(%d, %d, %q): %d told, %d; want none, %d", first, room, sketches(l), len(got), code, want)
	}
}

// with: these pairs behind those, in new memory.
func with(l []pair, more ...pair) []pair { return append(slices.Clone(l), more...) }

func hops(l []pair) (out []api.Hop) {
	for _, p := range l {
		out = append(out, p.hop)
	}
	return out
}

// far: numbers beyond all bounds, some of which look small when bits are cut off.
func far() []int {
	return []int{
		1<<31 - 1, 1 << 31, 1<<31 + 1, 1<<32 - 1, 1 << 32, 1<<32 + 1, 1<<32 + 5, 1<<32 + 64, 1<<48 + 7, 1 << 62, 1<<62 + 3, math.MaxInt64 - most, math.MaxInt64 - widest, math.MaxInt64 - 64, math.MaxInt64 - 1, math.MaxInt64,
		-1, -2, -3, -64, -255, -widest, -65536, -most, -1 << 31, -1<<31 + 5, -1<<32 + 5, -1 << 32, -1<<48 + 1, -1 << 62, -1<<62 + 3, math.MinInt64 + most, math.MinInt64 + widest, math.MinInt64 + 64, math.MinInt64 + 5, math.MinInt64 + 1, math.MinInt64,
	}
}

func noCounts() []int { // of Drain; as rooms, too
	return append([]int{widest + 1, widest + 2, 2 * widest, round, round + 1, most}, far()...)
}

func noFirsts() []int { return append([]int{round, round + 1, 2 * round, most}, far()...) }

func noKinds() []int {
	return append([]int{0, 9, 10, 11, 16, 255, 256, 257, 259, 261, 65537, 65539}, far()...)
}

// P9.1: at first, and what is refused as a whole.

func TestNoHopAtAll(t *testing.T) {
	for _, first := range firsts() {
		for _, room := range []int{1, 2, 64, widest - 1, widest} {
			isCode(t, first, room, nil, ok)
			isCode(t, first, room, []api.Hop{}, ok)
			isCode(t, first, room, make([]api.Hop, 0, 9), ok)
		}
	}
}

func TestAtFirst(t *testing.T) {
	for _, room := range []int{1, 2, 64, widest} { // nothing was given, and no frame was put
		isPlay(t, room, pair{send1, refused(errNone)}, pair{expire, left(0)}, pair{send1, refused(errNone)})
		for _, id := range []int{-1, 0, 1, 2, events} {
			isPlay(t, room, pair{hit(id, 0, 1), refused(errNone)}, pair{carry(id), refused(errNone)}, pair{back(id), refused(errNone)})
		}
		isPlay(t, room, pair{drain(0), put(0)}, pair{drain(widest), put(1)}, pair{back(0), left(0)}, pair{back(1), left(0)})
		isPlay(t, room, pair{give(0, 1), left(1)}, pair{send1, sent(0, 1)}, pair{carry(0), put(1)}, pair{drain(9), drained(2, 0, 1)})
		isPlay(t, room, pair{shut, left(1)}, pair{send1, sent(0, 1)}, pair{carry(0), put(1)}, pair{drain(9), ended(put(2))})
	}
}

func TestNoSuchLine(t *testing.T) {
	lists := [][]api.Hop{nil, {}, {send1}, {give(0, 9), send1}, {{}}, slices.Repeat([]api.Hop{send1}, events), slices.Repeat([]api.Hop{send1}, events+1)}
	for _, l := range lists {
		for _, first := range noFirsts() {
			for _, room := range []int{1, 9, widest, 0, -1, widest + 1} {
				isCode(t, first, room, l, errRange) // ahead of ErrSize, too
			}
		}
		for _, room := range append(noCounts(), 0) {
			for _, first := range []int{0, 1, 65535, -1, 65536} {
				isCode(t, first, room, l, errRange)
			}
		}
	}
	for room := -300; room <= widest+300; room++ {
		want := ok
		if room < 1 || room > widest {
			want = errRange
		}
		isCode(t, 7, room, nil, want)
	}
	for first := -300; first <= round+300; first++ {
		want := ok
		if first < 0 || first >= round {
			want = errRange
		}
		isCode(t, first, 7, nil, want)
	}
	for _, a := range far() {
		for _, b := range far() {
			isCode(t, a, b, nil, errRange)
		}
	}
}

func TestAsManyHopsAsMayBeAndOneMore(t *testing.T) {
	for _, h := range []api.Hop{give(0, 5), shut, send1, hit(0, 0, 1), carry(0), back(0), expire, drain(0), {}, {Kind: 9}} {
		for _, n := range []int{events - 1, events} {
			if got, code := pipe.Play(api.Line{Room: 7}, slices.Repeat([]api.Hop{h}, n)); code != ok || len(got) != n {
				t.Fatalf("%d of %s: %d told, %d", n, sketch(h), len(got), code)
			}
		}
		for _, n := range []int{events + 1, events + 2, 2 * events, 65536, 65537} {
			for _, room := range []int{1, 7, widest} {
				isCode(t, 65535, room, slices.Repeat([]api.Hop{h}, n), errSize)
			}
		}
	}
}

// TestAsManyFramesAsMayBe: with as many hops as may be the last frame has the number 299.
func TestAsManyFramesAsMayBe(t *testing.T) {
	var p []pair
	for n := range events {
		p = append(p, pair{drain(9), put(n)})
	}
	isPlay(t, 5, p...)
	isPlay(t, 5, with(p[:events-2], pair{back(events - 3), left(0)}, pair{back(events - 2), refused(errNone)})...)
}

// The document's examples.

func TestThreeSegmentsOfWhichOneIsLost(t *testing.T) {
	isPlay(t, 200, slices.Concat([]pair{
		{give(0, 192), left(192)},
		{send1, sent(0, 192)}, {send1, sent(1, 192)}, {send1, sent(2, 192)},
		{send1, refused(errNone)},
		{carry(0), put(3)}, {carry(2), put(4)}, // the second one is lost
		{back(3), left(128)}, {back(4), left(64)},
		{send1, refused(errNone)}, // who sends waits
		{expire, left(64)},
		{send1, sent(5, 64)}, // and sends the second one alone again
	}, sized(5, head+64), []pair{
		{send1, refused(errNone)},
		{carry(5), put(6)}, {back(6), left(0)},
		{drain(192), drained(7, 0, 192)}, // all 192 bytes can be taken then
	})...)
}

func TestOneBehindAnother(t *testing.T) {
	isPlay(t, 50,
		pair{give(0, 5), left(5)}, pair{send1, sent(0, 5)}, pair{send1, refused(errNone)},
		pair{hit(0, 12, 1), done}, pair{carry(0), refused(errSum)},
		pair{expire, left(5)}, pair{send1, sent(1, 5)}, pair{carry(1), put(2)}, pair{carry(1), put(3)},
		pair{drain(3), drained(4, 0, 3)}, pair{drain(9), drained(5, 3, 2)},
		pair{back(2), left(0)}, pair{back(9), refused(errNone)}, pair{carry(2), refused(errNone)},
		pair{shut, left(1)}, pair{send1, sent(6, 1)}, pair{carry(6), put(7)}, pair{drain(9), ended(put(8))},
		pair{back(8), left(0)}, pair{hit(0, 0, 1), refused(errTwice)}, pair{api.Hop{Kind: 9}, refused(errKind)},
	)
}

// P9.1: ordinary lists, in which all comes.

func TestAllComes(t *testing.T) {
	for _, n := range []int{0, 1, 2, 63, 64, 65, 127, 128, 129, 1000, widest - 1} {
		p := []pair{{give(0, n), left(n)}, {shut, left(n + 1)}}
		id := 0
		for from := 0; from <= n; from += packet {
			went := from + packet
			if n-from <= packet { // the end goes with the last ones
				went = n + 1
			}
			p = append(p, pair{send1, sent(id, n+1-from)}, pair{carry(id), put(id + 1)}, pair{back(id + 1), left(n + 1 - went)})
			id += 2
			if went > n {
				break
			}
		}
		isPlay(t, widest, with(p, pair{send1, refused(errNone)}, pair{drain(widest), ended(drained(id, 0, n))}, pair{back(id), left(0)}, pair{drain(widest), ended(put(id + 1))})...)
	}
}

func TestAllComesThroughLittleRoom(t *testing.T) {
	for _, room := range []int{1, 2, 3, 7} {
		p := []pair{{give(0, 20), left(20)}}
		id := 0
		for from := 0; from < 20; from += room {
			n := min(room, 20-from)
			p = append(p,
				pair{send1, sent(id, 20-from)},
				pair{send1, refused(errNone)}, // the window is shut, or there is nothing
				pair{carry(id), put(id + 1)}, pair{back(id + 1), left(20 - from - n)}, pair{send1, refused(errNone)},
				pair{drain(widest), drained(id+2, from, n)}, pair{back(id + 2), left(20 - from - n)},
			)
			id += 3
		}
		isPlay(t, room, p...)
	}
}

func TestTheGreatestRoom(t *testing.T) {
	n := widest / packet
	p := []pair{{give(0, widest), left(widest)}, {give(widest, 100), left(widest + 100)}}
	for id := range n {
		p = append(p, pair{send1, sent(id, widest+100)})
	}
	p = append(p, pair{send1, refused(errNone)}) // the edge is 4096
	for id := range n {
		p = append(p, pair{carry(id), put(n + id)})
	}
	p = append(p,
		pair{back(2*n - 1), left(100)}, pair{send1, refused(errNone)}, // the window is shut
		pair{drain(widest), drained(2*n, 0, widest)}, pair{back(2 * n), left(100)},
		pair{send1, sent(2*n+1, 100)}, pair{send1, sent(2*n+2, 100)}, pair{send1, refused(errNone)},
		pair{carry(2*n + 2), put(2*n + 3)}, pair{carry(2*n + 1), put(2*n + 4)}, pair{back(2*n + 3), left(64)}, pair{back(2*n + 4), left(0)},
		pair{drain(widest), drained(2*n+5, widest, 100)},
	)
	isPlay(t, widest, p...)
}

// P9.1: frames that are lost, that come twice, late, in another order, harmed.

func TestFramesAreLost(t *testing.T) {
	isPlay(t, 300,
		pair{give(0, 150), left(150)}, pair{shut, left(151)}, pair{send1, sent(0, 151)}, pair{send1, sent(1, 151)}, pair{send1, sent(2, 151)}, // with the end
		pair{expire, left(151)}, pair{send1, sent(3, 151)}, pair{send1, sent(4, 151)}, pair{send1, sent(5, 151)}, pair{send1, refused(errNone)}, // all are lost
		pair{carry(4), put(6)}, // but one; its answer is lost
		pair{drain(9), put(7)}, pair{back(7), left(87)}, pair{expire, left(87)},
		pair{send1, sent(8, 87)}, pair{send1, sent(9, 87)}, pair{send1, refused(errNone)},
		pair{carry(9), put(10)}, pair{carry(8), put(11)}, pair{back(11), left(0)},
		pair{drain(149), drained(12, 0, 149)}, pair{drain(1), ended(drained(13, 149, 1))},
	)
}

func TestFramesComeTwice(t *testing.T) {
	isPlay(t, 300,
		pair{give(0, 100), left(100)}, pair{send1, sent(0, 100)}, pair{send1, sent(1, 100)},
		pair{carry(1), put(2)}, pair{carry(1), put(3)}, pair{back(2), left(64)}, pair{back(2), left(64)}, pair{back(3), left(64)},
		pair{carry(0), put(4)}, pair{carry(0), put(5)}, pair{carry(1), put(6)}, pair{back(5), left(0)}, pair{back(4), left(0)}, pair{back(6), left(0)}, pair{back(2), left(0)},
		pair{drain(60), drained(7, 0, 60)}, pair{carry(0), put(8)}, pair{carry(1), put(9)}, pair{drain(99), drained(10, 60, 40)}, pair{carry(0), put(11)}, pair{carry(1), put(12)}, pair{drain(99), put(13)},
		pair{back(13), left(0)}, pair{expire, left(0)}, pair{send1, refused(errNone)},
	)
}

func TestFramesComeLate(t *testing.T) {
	isPlay(t, 300,
		pair{give(0, 64), left(64)}, pair{send1, sent(0, 64)}, pair{drain(0), put(1)}, pair{expire, left(64)}, pair{send1, sent(2, 64)}, pair{carry(2), put(3)}, pair{back(3), left(0)},
		pair{give(64, 64), left(64)}, pair{send1, sent(4, 64)}, pair{carry(0), put(5)}, pair{back(1), left(64)}, pair{back(5), left(64)}, pair{back(3), left(64)}, // the old ones tell nothing new
		pair{carry(4), put(6)}, pair{carry(2), put(7)}, pair{back(6), left(0)}, pair{back(1), left(0)}, pair{back(7), left(0)},
		pair{drain(128), drained(8, 0, 128)}, pair{carry(0), put(9)}, pair{drain(128), put(10)},
		pair{shut, left(1)}, pair{send1, sent(11, 1)}, pair{carry(11), put(12)}, pair{carry(4), put(13)}, pair{back(10), left(1)}, pair{back(13), left(0)}, pair{drain(0), ended(put(14))},
	)
}

// TestFramesComeInAllOrders: five frames, the end with the last one; whenever all came all is there.
func TestFramesComeInAllOrders(t *testing.T) {
	const n = 4*packet + 9
	up := []pair{{give(0, n), left(n)}, {shut, left(n + 1)}}
	for id := range 5 {
		up = append(up, pair{send1, sent(id, n+1)})
	}
	var walk func(order, rest []int)
	walk = func(order, rest []int) {
		for i, id := range rest {
			walk(append(order[:len(order):len(order)], id), slices.Delete(slices.Clone(rest), i, i+1))
		}
		if len(rest) > 0 {
			return
		}
		l, want := hops(up), []api.Passed{}
		for _, p := range up {
			want = append(want, p.want)
		}
		for i, id := range order {
			l, want = append(l, carry(id)), append(want, put(5+i))
		}
		for i := range order { // what is told last is told first
			l, want = append(l, back(9-i)), append(want, left(0))
		}
		l, want = append(l, drain(widest)), append(want, ended(drained(10, 0, n)))
		isList(t, 65500, 300, l, want)
	}
	walk(nil, []int{0, 1, 2, 3, 4})
}

// TestAnswersComeInAnotherOrder: how much is heard of behind each.
func TestAnswersComeInAnotherOrder(t *testing.T) {
	up := []pair{
		{give(0, 250), left(250)}, {send1, sent(0, 250)}, {send1, sent(1, 250)}, {send1, sent(2, 250)}, {send1, sent(3, 250)},
		{carry(3), put(4)}, {carry(1), put(5)}, {carry(0), put(6)}, {carry(2), put(7)}, // the last one has 58 bytes
	}
	isPlay(t, 300, with(up, pair{back(4), left(192)}, pair{back(5), left(128)}, pair{back(6), left(64)}, pair{back(7), left(0)})...)
	isPlay(t, 300, with(up, pair{back(5), left(128)}, pair{back(4), left(128)}, pair{back(6), left(64)}, pair{back(4), left(64)})...)
	isPlay(t, 300, with(up, pair{back(6), left(64)}, pair{back(5), left(64)}, pair{expire, left(64)}, pair{send1, sent(8, 64)}, pair{back(7), left(0)})...)
	isPlay(t, 300, with(up, pair{back(7), left(0)}, pair{back(6), left(0)}, pair{back(5), left(0)}, pair{back(4), left(0)}, pair{expire, left(0)}, pair{send1, refused(errNone)})...)
}

func TestHarmedFramesAreAsLost(t *testing.T) {
	isPlay(t, 300,
		pair{give(0, 100), left(100)}, pair{send1, sent(0, 100)}, pair{send1, sent(1, 100)},
		pair{hit(0, 20, 0x40), done}, pair{carry(0), refused(errSum)}, pair{carry(1), put(2)}, pair{carry(0), refused(errSum)}, pair{drain(9), put(3)},
		pair{hit(2, 9, 1), done}, pair{back(2), refused(errSum)}, pair{expire, left(100)}, pair{back(3), left(64)}, pair{back(2), refused(errSum)},
		pair{send1, sent(4, 64)}, pair{send1, refused(errNone)}, pair{carry(4), put(5)}, pair{hit(5, 0, 0xff), done}, pair{back(5), refused(errSum)}, pair{carry(4), put(6)}, pair{back(6), left(0)},
		pair{drain(100), drained(7, 0, 100)},
	)
}

// P9.1: the numbers of frames.

func TestNumbersOfFramesOfBothWays(t *testing.T) {
	isPlay(t, 300,
		pair{drain(0), put(0)}, pair{give(0, 70), left(70)}, pair{send1, sent(1, 70)}, pair{drain(0), put(2)}, pair{send1, sent(3, 70)}, pair{carry(1), put(4)}, pair{drain(1), drained(5, 0, 1)}, pair{carry(3), put(6)},
		pair{carry(0), refused(errNone)}, pair{back(1), refused(errNone)}, pair{carry(2), refused(errNone)}, pair{back(3), refused(errNone)}, pair{carry(4), refused(errNone)}, pair{carry(5), refused(errNone)}, pair{carry(6), refused(errNone)},
		pair{back(0), left(70)}, pair{back(2), left(70)}, pair{back(4), left(6)}, pair{back(5), left(6)}, pair{back(6), left(0)}, pair{back(7), refused(errNone)},
		pair{carry(1), put(7)}, pair{back(7), left(0)},
	)
}

// TestHopsThatPutNone: no number goes to a hop that puts no frame.
func TestHopsThatPutNone(t *testing.T) {
	start := []pair{{give(0, 9), left(9)}, {send1, sent(0, 9)}, {send1, refused(errNone)}, {carry(0), put(1)}, {hit(0, 3, 5), done}}
	for _, p := range []pair{
		{give(9, 0), left(9)}, {expire, left(9)}, {back(1), left(0)},
		{send1, refused(errNone)}, {carry(0), refused(errSum)}, {carry(1), refused(errNone)}, {carry(9), refused(errNone)}, {back(0), refused(errNone)}, {back(9), refused(errNone)}, {drain(-1), refused(errRange)}, {drain(widest + 1), refused(errRange)},
		{give(9, widest+1), short(errSize, 9)}, {hit(0, 0, 1), refused(errTwice)}, {hit(9, 0, 1), refused(errNone)}, {hit(1, 10, 1), refused(errRange)}, {api.Hop{}, refused(errKind)}, {api.Hop{Kind: 9}, refused(errKind)},
	} {
		isPlay(t, 300, with(start, p, pair{drain(4), drained(2, 0, 4)}, p, pair{drain(9), drained(3, 4, 5)})...)
	}
}

// P9.1: Give, Shut and Expire.

func TestGiveOfAllSizes(t *testing.T) {
	for _, n := range []int{0, 1, 2, 63, 64, 65, 1000, widest - 1, widest} {
		isPlay(t, 9, pair{give(0, n), left(n)}, pair{give(n, 1), left(n + 1)}, pair{send1, sent(0, n+1)}, pair{carry(0), put(1)}, pair{drain(widest), drained(2, 0, min(9, n+1))})
	}
	for _, n := range []int{widest + 1, widest + 2, 2 * widest, 65536, most - 1, most, 2 * most} {
		isPlay(t, 9, pair{give(0, n), short(errSize, 0)}, pair{send1, refused(errNone)}, pair{give(0, 3), left(3)}, pair{give(3, n), short(errSize, 3)}, pair{send1, sent(0, 3)}, pair{carry(0), put(1)}, pair{drain(widest), drained(2, 0, 3)})
	}
}

func TestGiveToOneThatIsShut(t *testing.T) {
	for _, n := range []int{0, 1, 64, widest, widest + 1, most} { // ErrState is told ahead of ErrSize; Left beside it
		isPlay(t, 9, pair{shut, left(1)}, pair{give(0, n), short(errState, 1)}, pair{send1, sent(0, 1)}, pair{give(0, n), short(errState, 1)}, pair{carry(0), put(1)}, pair{back(1), left(0)}, pair{give(0, n), short(errState, 0)}, pair{drain(9), ended(put(2))})
		isPlay(t, 9, pair{give(0, 5), left(5)}, pair{shut, left(6)}, pair{give(5, n), short(errState, 6)}, pair{send1, sent(0, 6)}, pair{send1, refused(errNone)}, pair{carry(0), put(1)}, pair{drain(9), ended(drained(2, 0, 5))})
	}
}

func TestShutTwice(t *testing.T) {
	isPlay(t, 9, pair{shut, left(1)}, pair{shut, short(errState, 1)}, pair{shut, short(errState, 1)}, pair{send1, sent(0, 1)}, pair{shut, short(errState, 1)}, pair{carry(0), put(1)}, pair{back(1), left(0)}, pair{shut, short(errState, 0)})
	isPlay(t, 9, pair{give(0, 20), left(20)}, pair{shut, left(21)}, pair{send1, sent(0, 21)}, pair{shut, short(errState, 21)}, pair{carry(0), put(1)}, pair{back(1), left(12)}, pair{shut, short(errState, 12)})
}

func TestGiveOfAsManyAsThereArePlaces(t *testing.T) {
	var p []pair
	for n := range most/widest - 1 {
		p = append(p, pair{give(n*widest, widest), left((n + 1) * widest)})
	}
	const all = most - widest
	l := with(p,
		pair{give(all, widest), short(errFull, all)}, // just MaxPos
		pair{give(all, widest+1), short(errSize, all)},
		pair{give(all, widest-1), left(most - 1)},
		pair{give(most-1, 1), short(errFull, most-1)},
		pair{give(most-1, 0), left(most - 1)},
		pair{send1, sent(0, most-1)}, pair{carry(0), put(1)}, pair{back(1), left(most - 1 - 64)},
		pair{give(most-1, 1), short(errFull, most-1-64)},
		pair{shut, left(most - 64)},
		pair{give(most-1, 1), short(errState, most-64)},
		pair{give(most-1, widest+1), short(errState, most-64)},
		pair{shut, short(errState, most-64)},
		pair{drain(99), drained(2, 0, 64)},
	)
	var want []api.Passed
	for _, x := range l {
		want = append(want, x.want)
	}
	for _, first := range firsts() {
		isList(t, first, 64, hops(l), want)
	}
}

func TestExpire(t *testing.T) {
	// with nothing given, nothing sent, and all heard of
	isPlay(t, 70, pair{expire, left(0)}, pair{send1, refused(errNone)}, pair{give(0, 5), left(5)}, pair{expire, left(5)}, pair{send1, sent(0, 5)}, pair{carry(0), put(1)}, pair{back(1), left(0)}, pair{expire, left(0)}, pair{send1, refused(errNone)})
	// twice: once more each time
	isPlay(t, 70, slices.Concat([]pair{{give(0, 100), left(100)}, {send1, sent(0, 100)}, {send1, sent(1, 100)}, {send1, refused(errNone)}, {expire, left(100)}, {send1, sent(2, 100)}, {expire, left(100)}, {expire, left(100)}, {send1, sent(3, 100)}, {send1, sent(4, 100)}, {send1, refused(errNone)}},
		sized(0, head+64), sized(1, head+6), sized(2, head+64), sized(3, head+64), sized(4, head+6))...)
	// what is heard of is not sent again
	isPlay(t, 200, slices.Concat([]pair{{give(0, 190), left(190)}, {shut, left(191)}, {send1, sent(0, 191)}, {send1, sent(1, 191)}, {send1, sent(2, 191)}, {carry(1), put(3)}, {back(3), left(127)}, {expire, left(127)}, {send1, sent(4, 127)}, {send1, sent(5, 127)}, {send1, refused(errNone)}},
		sized(4, head+64), sized(5, head+62))...)
}

func TestExpireWithTheWindowShut(t *testing.T) {
	isPlay(t, 3, slices.Concat([]pair{
		{give(0, 9), left(9)}, {send1, sent(0, 9)}, {send1, refused(errNone)}, {carry(0), put(1)}, {back(1), left(6)}, {send1, refused(errNone)},
		{expire, left(6)}, {send1, sent(2, 6)}, {send1, refused(errNone)}, // one place beyond the edge
		{carry(2), put(3)}, {back(3), left(6)}, // it is dropped, for there is no room
		{drain(1), drained(4, 0, 1)}, {carry(2), put(5)}, {back(5), left(5)}, // now there is
		{drain(widest), drained(6, 1, 3)}, {back(6), left(5)}, {send1, sent(7, 5)}, {send1, refused(errNone)}, {carry(7), put(8)}, {drain(9), drained(9, 4, 3)},
	}, sized(0, head+3), sized(2, head+1), sized(7, head+3))...)
}

// P9.1: Send.

func TestSendWithNothingToSend(t *testing.T) {
	isPlay(t, 9,
		pair{send1, refused(errNone)}, pair{give(0, 0), left(0)}, pair{send1, refused(errNone)},
		pair{give(0, 2), left(2)}, pair{send1, sent(0, 2)}, pair{send1, refused(errNone)}, pair{send1, refused(errNone)}, // Left is not told then
		pair{carry(0), put(1)}, pair{send1, refused(errNone)}, pair{back(1), left(0)}, pair{send1, refused(errNone)},
		pair{shut, left(1)}, pair{send1, sent(2, 1)}, pair{send1, refused(errNone)}, pair{expire, left(1)}, pair{send1, sent(3, 1)}, pair{send1, refused(errNone)},
	)
}

func TestSendWithTheWindowShut(t *testing.T) {
	for room := 1; room <= 2*packet+5; room++ {
		p := []pair{{give(0, 200), left(200)}}
		id := 0
		for from := 0; from < room; from += packet {
			p = append(p, pair{send1, sent(id, 200)})
			p = append(p, sized(id, head+min(packet, room-from))...)
			id++
		}
		isPlay(t, room, append(p, pair{send1, refused(errNone)}, pair{give(200, 9), left(209)}, pair{send1, refused(errNone)})...)
	}
}

func TestSendOfTheEnd(t *testing.T) {
	// alone
	isPlay(t, 9, slices.Concat([]pair{{shut, left(1)}, {send1, sent(0, 1)}}, sized(0, head), []pair{{carry(0), put(1)}, {drain(9), ended(put(2))}, {back(2), left(0)}, {carry(0), put(3)}})...)
	isPlay(t, 9, slices.Concat([]pair{{give(0, 5), left(5)}, {send1, sent(0, 5)}, {shut, left(6)}, {send1, sent(1, 6)}}, sized(0, head+5), sized(1, head), []pair{{carry(1), put(2)}, {drain(9), put(3)}, {back(3), left(6)}, {carry(0), put(4)}, {back(4), left(0)}, {drain(9), ended(drained(5, 0, 5))}})...)
	// with the last bytes, as many as go at once
	isPlay(t, 200, slices.Concat([]pair{{give(0, 128), left(128)}, {shut, left(129)}, {send1, sent(0, 129)}, {send1, sent(1, 129)}, {send1, refused(errNone)}}, sized(1, head+64), []pair{{carry(0), put(2)}, {carry(1), put(3)}, {back(3), left(0)}, {drain(200), ended(drained(4, 0, 128))}})...)
	// the end behind the edge
	isPlay(t, 64, slices.Concat([]pair{{give(0, 64), left(64)}, {shut, left(65)}, {send1, sent(0, 65)}, {send1, refused(errNone)}, {carry(0), put(1)}, {back(1), left(1)}, {send1, refused(errNone)}, {drain(9), drained(2, 0, 9)}, {back(2), left(1)}, {send1, sent(3, 1)}}, sized(3, head), []pair{{carry(3), put(4)}, {back(4), left(0)}, {drain(99), ended(drained(5, 9, 55))}})...)
	// or put in front by an Expire
	isPlay(t, 64, pair{give(0, 64), left(64)}, pair{shut, left(65)}, pair{send1, sent(0, 65)}, pair{carry(0), put(1)}, pair{back(1), left(1)}, pair{expire, left(1)}, pair{send1, sent(2, 1)}, pair{carry(2), put(3)}, pair{back(3), left(0)}, pair{drain(99), ended(drained(4, 0, 64))})
}

// P9.1: Hit.

// harmable: hops behind which 0 is a frame of Send of 15 bytes, 4 one of 10 bytes, of a Drain, and 5 one of 18, of a Carry.
func harmable() []pair {
	return []pair{{give(0, 5), left(5)}, {send1, sent(0, 5)}, {give(5, 4), left(9)}, {send1, sent(1, 9)}, {give(9, 3), left(12)}, {shut, left(13)}, {send1, sent(2, 13)}, {give(9, 1), short(errState, 13)}, {carry(2), put(3)}, {drain(0), put(4)}}
}

func TestHitOfEachByte(t *testing.T) {
	// frame 0: 15 bytes, of Send; 3: of a Carry, with one of the Sacks; 4: of a Drain, the same
	for _, f := range []struct {
		id, size int
		hop      func(id int) api.Hop
		want     api.Passed // if it were not harmed
	}{{0, head + 5, carry, put(5)}, {3, head + perSack, back, left(10)}, {4, head + perSack, back, left(10)}} {
		for at := range f.size {
			for _, by := range []byte{1, 2, 4, 8, 16, 32, 64, 128, 255, 170, 85, 127} {
				isList(t, 65535, 300, append(hops(harmable()), hit(f.id, at, by), f.hop(f.id), hit(f.id, at, by), f.hop(f.id)), append(wants(harmable()), done, refused(errSum), refused(errTwice), refused(errSum)))
			}
			isList(t, 65535, 300, append(hops(harmable()), hit(f.id, at, 0), hit(f.id, at, 9), f.hop(f.id)), append(wants(harmable()), done, refused(errTwice), f.want)) // by 0: nothing is turned, but it was hit
		}
		for by := range 256 {
			want := refused(errSum)
			if by == 0 {
				want = f.want
			}
			for _, at := range []int{0, 6, 7, f.size - 1} {
				isList(t, 7, 300, append(hops(harmable()), hit(f.id, at, byte(by)), f.hop(f.id)), append(wants(harmable()), done, want))
			}
		}
		for _, at := range append([]int{f.size, f.size + 1, 2 * f.size, 64, 256, 65536}, far()...) {
			isPlay(t, 300, with(harmable(), pair{hit(f.id, at, 1), refused(errRange)}, pair{hit(f.id, at, 0), refused(errRange)}, pair{f.hop(f.id), f.want}, pair{hit(f.id, f.size-1, 1), done}, pair{hit(f.id, at, 1), refused(errRange)}, pair{f.hop(f.id), refused(errSum)})...)
		}
	}
}

func wants(l []pair) (out []api.Passed) {
	for _, p := range l {
		out = append(out, p.want)
	}
	return out
}

func TestHitOfNoFrame(t *testing.T) {
	for _, id := range append([]int{5, 6, 7, 255, 256, 65536, 65541}, far()...) {
		isPlay(t, 300, with(harmable(), pair{hit(id, 0, 1), refused(errNone)}, pair{hit(id, -1, 1), refused(errNone)}, pair{hit(id, 99, 0), refused(errNone)}, pair{hit(id, math.MaxInt64, 1), refused(errNone)}, pair{carry(0), put(5)}, pair{back(5), left(5)})...)
	}
}

func TestHitOfWhatWasHit(t *testing.T) {
	for _, by := range []byte{0, 1, 128, 255} {
		want := refused(errSum)
		if by == 0 {
			want = put(5)
		}
		isPlay(t, 300, with(harmable(), pair{hit(0, 3, by), done}, pair{hit(0, 3, by), refused(errTwice)}, pair{hit(0, 4, 0), refused(errTwice)}, pair{hit(0, 14, 255), refused(errTwice)}, // not even back
			pair{hit(0, 15, 1), refused(errRange)}, pair{hit(0, -1, 1), refused(errRange)}, pair{carry(0), want}, pair{hit(1, 3, 1), done}, pair{hit(2, 3, 1), done}, pair{hit(3, 3, 1), done})...) // others were not hit
	}
}

// TestHitAndComing: it was hit ahead of coming, between, or behind.
func TestHitAndComing(t *testing.T) {
	isPlay(t, 9,
		pair{give(0, 3), left(3)}, pair{send1, sent(0, 3)}, pair{carry(0), put(1)}, pair{hit(0, 11, 9), done}, pair{carry(0), refused(errSum)}, pair{back(1), left(0)}, pair{hit(1, 3, 1), done}, pair{back(1), refused(errSum)},
		pair{drain(9), drained(2, 0, 3)}, pair{give(3, 2), left(2)}, pair{send1, sent(3, 2)}, pair{hit(3, 10, 1), done}, pair{carry(3), refused(errSum)}, pair{expire, left(2)}, pair{send1, sent(4, 2)}, pair{carry(4), put(5)}, pair{drain(9), drained(6, 3, 2)},
	)
}

func TestBytesOfFrames(t *testing.T) {
	for n := range packet + 1 { // of Send: ten, and Data
		isPlay(t, 100, slices.Concat([]pair{{give(0, n), left(n)}, {shut, left(n + 1)}, {send1, sent(0, n+1)}}, sized(0, head+n), []pair{{carry(0), put(1)}}, sized(1, head))...)
	}
	// of a Carry and of a Drain: ten, and four for each of the Sacks, of which there are three at most
	p := []pair{}
	for id := range 10 {
		p = append(p, pair{give(id, 1), left(id + 1)}, pair{send1, sent(id, id+1)})
	}
	id := 10
	for i, n := range []int{1, 2, 3, 3, 3} {
		p = append(p, pair{carry(2*i + 1), put(id)}, pair{drain(0), put(id + 1)})
		p = append(p, sized(id, head+n*perSack)...)
		p = append(p, sized(id+1, head+n*perSack)...)
		id += 2
	}
	isPlay(t, 100, append(p, slices.Concat([]pair{{carry(4), put(id)}}, sized(id, head+3*perSack), []pair{{carry(0), put(id + 1)}}, sized(id+1, head+3*perSack), []pair{{carry(2), put(id + 2)}}, sized(id+2, head+2*perSack),
		[]pair{{carry(6), put(id + 3)}, {drain(9), drained(id+4, 0, 8)}}, sized(id+3, head+perSack), sized(id+4, head+perSack), []pair{{carry(8), put(id + 5)}}, sized(id+5, head))...)...)
}

// P9.1: Carry.

func TestCarryOfNone(t *testing.T) {
	for _, id := range append([]int{3, 4, 5, 6, 255, 256, 65536, 65537}, far()...) { // 3: of a Carry, 4: of a Drain; 5: there is none
		isPlay(t, 300, with(harmable(), pair{carry(id), refused(errNone)}, pair{carry(id), refused(errNone)}, pair{carry(0), put(5)}, pair{back(5), left(5)}, pair{carry(5), refused(errNone)})...)
	}
	// harmed, too
	isPlay(t, 300, with(harmable(), pair{hit(3, 0, 1), done}, pair{carry(3), refused(errNone)}, pair{hit(4, 8, 1), done}, pair{carry(4), refused(errNone)}, pair{back(3), refused(errSum)}, pair{back(4), refused(errSum)})...)
}

// TestCarryDropsWhatIsBeyondTheRoom: what is sent ahead of an Expire may stand there.
func TestCarryDropsWhatIsBeyondTheRoom(t *testing.T) {
	isPlay(t, 5, pair{give(0, 8), left(8)}, pair{send1, sent(0, 8)}, pair{carry(0), put(1)}, pair{back(1), left(3)}, pair{expire, left(3)}, pair{send1, sent(2, 3)}, pair{carry(2), put(3)}, pair{carry(2), put(4)}, pair{back(4), left(3)},
		pair{drain(3), drained(5, 0, 3)}, pair{drain(9), drained(6, 3, 2)}, pair{drain(9), put(7)}, pair{carry(2), put(8)}, pair{drain(9), drained(9, 5, 1)}, pair{back(9), left(2)}, pair{send1, sent(10, 2)}, pair{carry(10), put(11)}, pair{drain(9), drained(12, 6, 2)})
}

// apart: hops behind which frames 0 to n-1 of one byte each were sent.
func apart(n int) []pair {
	var p []pair
	for id := range n {
		p = append(p, pair{give(id, 1), left(id + 1)}, pair{send1, sent(id, id+1)})
	}
	return p
}

// holed: hops behind which the bytes at 1, 3, .. 31 of 40 came, by the frames of these numbers, and are not heard of; the next frame has the number 56.
func holed() []pair {
	p := apart(40)
	for i := range holes {
		p = append(p, pair{carry(2*i + 1), put(40 + i)})
	}
	return p
}

func TestCarryWithTooManyRanges(t *testing.T) {
	for _, p := range [][]pair{
		{{carry(33), refused(errFull)}, {carry(35), refused(errFull)}, {carry(39), refused(errFull)}, {drain(9), put(56)}}, // no frame is put then
		{{carry(33), refused(errFull)}, {carry(2), put(56)}, {carry(33), put(57)}, {carry(35), refused(errFull)}, {carry(34), put(58)}, {carry(35), put(59)}},
		{{carry(33), refused(errFull)}, {carry(0), put(56)}, {carry(33), put(57)}, {drain(9), drained(58, 0, 2)}},
		{{carry(33), refused(errFull)}, {carry(32), put(56)}, {carry(33), put(57)}, {carry(35), refused(errFull)}},
		{{carry(1), put(56)}, {carry(31), put(57)}, {carry(33), refused(errFull)}, {hit(33, 0, 1), done}, {carry(33), refused(errSum)}}, // ErrSum ahead of ErrFull
	} {
		isPlay(t, 300, with(holed(), p...)...)
	}
}

// P9.1: Return.

func TestReturnOfNone(t *testing.T) {
	for _, id := range append([]int{0, 1, 2, 5, 6, 255, 256, 259, 65536, 65539}, far()...) { // 0 to 2: of Send; 5: there is none
		isPlay(t, 300, with(harmable(), pair{back(id), refused(errNone)}, pair{back(id), refused(errNone)}, pair{back(3), left(10)}, pair{back(4), left(10)}, pair{back(id), refused(errNone)}, pair{expire, left(10)})...)
	}
	isPlay(t, 300, with(harmable(), pair{hit(0, 0, 1), done}, pair{back(0), refused(errNone)}, pair{carry(0), refused(errSum)})...)
}

// TestReturnTellsTheWindow: the edge is as far as Ack and Window say.
func TestReturnTellsTheWindow(t *testing.T) {
	for n := range 31 { // as many are drained
		p := []pair{{give(0, 100), left(100)}, {send1, sent(0, 100)}, {send1, refused(errNone)}, {carry(0), put(1)}, {drain(n), drained(2, 0, n)}, {back(1), left(70)}, {send1, refused(errNone)}, {back(2), left(70)}}
		if n > 0 {
			p = append(append(p, pair{send1, sent(3, 70)}), sized(3, head+n)...)
		}
		isPlay(t, 30, append(p, pair{send1, refused(errNone)}, pair{back(1), left(70)}, pair{send1, refused(errNone)})...)
	}
}

// TestReturnTellsSacks: what came beyond a gap is not sent again.
func TestReturnTellsSacks(t *testing.T) {
	p := with(apart(9), pair{carry(2), put(9)}, pair{carry(4), put(10)}, pair{carry(6), put(11)}, pair{carry(8), put(12)}, pair{carry(5), put(13)}, pair{drain(3), put(14)})
	for _, c := range []struct {
		ids  []int
		left []int
		runs []int // what is sent again behind an Expire: so many bytes in each frame
	}{
		{[]int{9}, []int{8}, []int{2, 6}},
		{[]int{10}, []int{7}, []int{2, 1, 4}},
		{[]int{11}, []int{6}, []int{2, 1, 1, 2}},
		{[]int{12}, []int{6}, []int{4, 1, 1}},              // three of the four
		{[]int{13}, []int{4}, []int{2, 1, 1}},              // 4 to 6, 8, 2
		{[]int{14}, []int{4}, []int{2, 1, 1}},              // 8, 4 to 6, 2
		{[]int{12, 9}, []int{6, 5}, []int{2, 1, 1, 1}},     // together
		{[]int{9, 10, 9}, []int{8, 7, 7}, []int{2, 1, 4}},  // again
		{[]int{13, 9, 11}, []int{4, 4, 4}, []int{2, 1, 1}}, // late
	} {
		l := slices.Clone(p)
		n := 9
		for i, id := range c.ids {
			n = c.left[i]
			l = append(l, pair{back(id), left(n)})
		}
		l = append(l, pair{expire, left(n)})
		for i, size := range c.runs {
			l = append(append(l, pair{send1, sent(15+i, n)}), sized(15+i, head+size)...)
		}
		isPlay(t, 300, append(l, pair{send1, refused(errNone)})...)
	}
}

// TestReturnWithTooManyRanges: 16 ranges are heard of one by one; then two of them are joined at who hears, which is not heard of, and a further one comes.
func TestReturnWithTooManyRanges(t *testing.T) {
	p := holed()
	for i := range holes {
		p = append(p, pair{back(40 + i), left(39 - i)})
	}
	p = append(p, pair{carry(2), put(56)}, pair{carry(33), put(57)}, pair{carry(37), refused(errFull)}, pair{drain(0), put(58)})
	for _, more := range [][]pair{
		{{back(57), refused(errFull)}, {back(57), refused(errFull)}, {expire, left(24)}, {back(58), refused(errFull)}, {back(56), left(23)}, {back(57), left(22)}, {back(58), left(22)}},
		{{back(57), refused(errFull)}, {back(55), left(24)}, {back(40), left(24)}, {expire, left(24)}, {send1, sent(59, 24)}, {send1, sent(60, 24)}, {carry(59), put(61)}, {back(61), left(21)}, {back(57), left(21)}},
		{{hit(57, 0, 1), done}, {back(57), refused(errSum)}, {give(40, 1), left(25)}, {back(58), refused(errFull)}}, // ErrSum ahead of ErrFull
		{{back(57), refused(errFull)}, {send1, refused(errNone)}, {give(40, widest+1), short(errSize, 24)}, {back(56), left(23)}, {give(40, 1), left(24)}, {shut, left(25)}},
	} {
		isPlay(t, 300, with(p, more...)...)
	}
}

// P9.1: Drain.

func TestDrainOfAllCounts(t *testing.T) {
	up := []pair{{give(0, 30), left(30)}, {send1, sent(0, 30)}, {shut, left(31)}, {carry(0), put(1)}}
	for n := range 50 {
		d := min(n, 30)
		isPlay(t, 60, with(up, pair{drain(n), drained(2, 0, d)}, pair{drain(0), put(3)}, pair{drain(widest), drained(4, d, 30-d)}, pair{drain(n), put(5)}, pair{back(5), left(1)})...)
		x := drained(4, 0, d) // with the end known
		x.End = d == 30
		isPlay(t, 60, with(up, pair{send1, sent(2, 31)}, pair{carry(2), put(3)}, pair{drain(n), x}, pair{drain(30 - d), ended(drained(5, d, 30-d))}, pair{drain(n), ended(put(6))}, pair{drain(0), ended(put(7))})...)
	}
	for _, n := range noCounts() {
		isPlay(t, 60, with(up, pair{drain(n), refused(errRange)}, pair{drain(5), drained(2, 0, 5)}, pair{drain(n), refused(errRange)}, pair{drain(widest), drained(3, 5, 25)}, pair{send1, sent(4, 31)}, pair{carry(4), put(5)}, pair{drain(n), refused(errRange)}, pair{drain(1), ended(put(6))}, pair{drain(n), refused(errRange)})...)
	}
}

func TestDrainUpToAGap(t *testing.T) {
	isPlay(t, 60, with(apart(6), pair{carry(0), put(6)}, pair{carry(1), put(7)}, pair{carry(4), put(8)}, pair{drain(9), drained(9, 0, 2)}, pair{drain(9), put(10)}, pair{carry(2), put(11)}, pair{drain(9), drained(12, 2, 1)}, pair{carry(3), put(13)}, pair{drain(1), drained(14, 3, 1)}, pair{drain(9), drained(15, 4, 1)})...)
}

// P9.1: wrong kinds, and what is refused.

func TestNoSuchKind(t *testing.T) {
	for kind := -300; kind <= 600; kind++ {
		if kind < kindGive || kind > kindDrain {
			isList(t, 9, 9, []api.Hop{{Kind: kind}}, []api.Passed{refused(errKind)})
		}
	}
	for _, kind := range noKinds() {
		no := pair{api.Hop{Kind: kind, Data: text(0, 5), At: 3, By: 1, Count: 5}, refused(errKind)}
		isPlay(t, 20, no, pair{give(0, 5), left(5)}, no, pair{send1, sent(0, 5)}, no, pair{carry(0), put(1)}, no, pair{drain(3), drained(2, 0, 3)}, no, pair{shut, left(6)}, no, pair{send1, sent(3, 6)}, pair{carry(3), put(4)}, no, pair{back(4), left(0)}, no, pair{drain(5), ended(drained(5, 3, 2))}, no)
	}
}

func TestWhatIsRefusedAsTheFirstOne(t *testing.T) {
	for _, p := range []pair{
		{give(0, widest+1), short(errSize, 0)}, {send1, refused(errNone)}, {hit(0, 0, 1), refused(errNone)}, {hit(-1, -1, 0), refused(errNone)}, {carry(0), refused(errNone)}, {carry(-1), refused(errNone)}, {back(0), refused(errNone)}, {back(1), refused(errNone)},
		{drain(-1), refused(errRange)}, {drain(widest + 1), refused(errRange)}, {api.Hop{}, refused(errKind)}, {api.Hop{Kind: 9}, refused(errKind)}, {api.Hop{Kind: -1}, refused(errKind)},
	} {
		isPlay(t, 9, p, pair{give(0, 5), left(5)}, pair{send1, sent(0, 5)}, pair{carry(0), put(1)}, pair{back(1), left(0)}, pair{drain(5), drained(2, 0, 5)})
	}
}

// refusals: hops that are refused behind before.
func refusals() []pair {
	return []pair{
		{give(12, 0), short(errState, 10)}, {give(12, 1), short(errState, 10)}, {give(12, widest+1), short(errState, 10)}, {shut, short(errState, 10)},
		{send1, refused(errNone)},
		{hit(6, 0, 1), refused(errNone)}, {hit(-1, 0, 1), refused(errNone)}, {hit(math.MaxInt64, 0, 1), refused(errNone)}, {hit(math.MinInt64, 0, 1), refused(errNone)},
		{hit(0, 15, 1), refused(errRange)}, {hit(0, -1, 1), refused(errRange)}, {hit(1, 14, 1), refused(errRange)}, {hit(1, -1, 1), refused(errRange)}, {hit(0, math.MaxInt64, 1), refused(errRange)}, {hit(3, math.MinInt64, 1), refused(errRange)},
		{hit(1, 0, 1), refused(errTwice)}, {hit(1, 13, 0), refused(errTwice)}, {hit(5, 9, 255), refused(errTwice)},
		{carry(3), refused(errNone)}, {carry(4), refused(errNone)}, {carry(5), refused(errNone)}, {carry(6), refused(errNone)}, {carry(-1), refused(errNone)}, {carry(math.MaxInt64), refused(errNone)}, {carry(1), refused(errSum)},
		{back(0), refused(errNone)}, {back(1), refused(errNone)}, {back(2), refused(errNone)}, {back(6), refused(errNone)}, {back(-1), refused(errNone)}, {back(math.MinInt64), refused(errNone)}, {back(5), refused(errSum)},
		{drain(-1), refused(errRange)}, {drain(widest + 1), refused(errRange)}, {drain(math.MaxInt64), refused(errRange)}, {drain(math.MinInt64), refused(errRange)},
		{api.Hop{}, refused(errKind)}, {api.Hop{Kind: 9, Data: text(12, 3), Count: 5}, refused(errKind)}, {api.Hop{Kind: math.MinInt64}, refused(errKind)},
	}
}

// before: what refusals stand behind: three frames of Send, of 15, 14 and 13 bytes, the last one of which came, with the end; of its answers the first one is heard of; frames 1 and 5 are harmed.
func before() []pair {
	return with(harmable(), pair{back(3), left(10)}, pair{drain(9), put(5)}, pair{hit(1, 2, 4), done}, pair{hit(5, 9, 4), done})
}

// TestWhatIsRefusedDoesNothingElse: in the midst, and as the last one.
func TestWhatIsRefusedDoesNothingElse(t *testing.T) {
	tail := []pair{
		{carry(0), put(6)}, {back(6), left(5)}, {send1, refused(errNone)}, {expire, left(5)}, {send1, sent(7, 5)}, {send1, sent(8, 5)}, {send1, refused(errNone)}, // the end, too: of it no range tells
		{carry(7), put(9)}, {back(4), left(5)}, {back(9), left(0)},
		{drain(7), drained(10, 0, 7)}, {drain(7), ended(drained(11, 7, 5))}, {hit(0, 14, 1), done}, {hit(4, 13, 1), done}, {back(4), refused(errSum)}, {hit(11, 9, 1), done}, {hit(11, 10, 1), refused(errRange)}, {hit(8, 10, 1), refused(errRange)}, {hit(8, 9, 1), done},
	}
	for _, p := range refusals() {
		isPlay(t, 60, with(with(before(), p, p), tail...)...)
		isPlay(t, 60, with(before(), p)...)
	}
	isPlay(t, 60, with(with(before(), refusals()...), tail...)...)
	isPlay(t, 60, with(before(), tail...)...)
}

// TestWhichErrorIsToldFirst: where two or more of them apply.
func TestWhichErrorIsToldFirst(t *testing.T) {
	isPlay(t, 60, with(before(),
		pair{give(0, widest+1), short(errState, 10)}, pair{give(0, most), short(errState, 10)}, // ErrSize
		pair{hit(6, -1, 1), refused(errNone)}, pair{hit(6, 99, 1), refused(errNone)}, pair{hit(-1, math.MinInt64, 1), refused(errNone)}, // ErrRange
		pair{hit(1, 14, 1), refused(errRange)}, pair{hit(1, -1, 1), refused(errRange)}, pair{hit(5, 14, 1), refused(errRange)}, pair{hit(5, math.MaxInt64, 0), refused(errRange)}, // ErrTwice
		pair{carry(5), refused(errNone)}, pair{back(1), refused(errNone)}, // ErrSum
	)...)
}

func TestNumbersBeyondAllBounds(t *testing.T) {
	for _, a := range far() {
		var p []pair
		for _, b := range far() {
			p = append(p, pair{hit(a, b, 1), refused(errNone)}, pair{hit(0, b, 1), refused(errRange)}, pair{hit(4, b, 1), refused(errRange)})
		}
		l := with(p, pair{carry(a), refused(errNone)}, pair{back(a), refused(errNone)}, pair{drain(a), refused(errRange)}, pair{api.Hop{Kind: a, Id: a, At: a, Count: a}, refused(errKind)}, pair{carry(0), put(5)}, pair{back(5), left(5)}, pair{drain(9), drained(6, 0, 5)})
		for _, first := range []int{0, 65535} {
			isList(t, first, 60, append(hops(harmable()), hops(l)...), append(wants(harmable()), wants(l)...))
		}
	}
}

// The model: both ends are told all anew each time, as layers 7 and 8 have it; frames have the places themselves, and no serial numbers.
type model struct {
	room     int
	deeds    []api.Deed
	arrivals []api.Arrival
	frames   []flown
}

// flown: a frame: arrival, if it is of Send; else deed.
type flown struct {
	there   bool
	size    int
	arrival api.Arrival
	deed    api.Deed
	hit     bool
	harmed  bool
}

func (m *model) do(d api.Deed) api.Sent {
	m.deeds = append(m.deeds[:len(m.deeds):len(m.deeds)], d)
	got, _ := send.Play(m.room, m.deeds)
	return got[len(got)-1]
}

func (m *model) hear(a api.Arrival) api.Told {
	m.arrivals = append(m.arrivals[:len(m.arrivals):len(m.arrivals)], a)
	got, _ := recv.Play(m.room, m.arrivals)
	return got[len(got)-1]
}

func (m *model) put(f flown) int {
	m.frames = append(m.frames[:len(m.frames):len(m.frames)], f)
	return len(m.frames) - 1
}

func (m *model) act(h api.Hop) api.Passed {
	there := h.Id >= 0 && h.Id < len(m.frames)
	var f flown
	if there {
		f = m.frames[h.Id]
	}
	switch h.Kind {
	case kindGive, kindShut, kindExpire:
		d := map[int]api.Deed{kindGive: {Kind: api.Submit, Data: h.Data}, kindShut: {Kind: api.Close}, kindExpire: {Kind: api.Timeout}}[h.Kind]
		x := m.do(d)
		return api.Passed{Code: x.Code, Left: x.Left}
	case kindSend:
		x := m.do(api.Deed{Kind: api.Poll})
		if x.Idle {
			return refused(errNone)
		}
		id := m.put(flown{there: true, size: head + len(x.Data), arrival: api.Arrival{Kind: api.Arrive, From: x.From, Data: x.Data, Fin: x.Fin}})
		return sent(id, x.Left)
	case kindHit:
		if !there {
			return refused(errNone)
		}
		if h.At < 0 || h.At >= f.size {
			return refused(errRange)
		}
		if f.hit {
			return refused(errTwice)
		}
		f.hit, f.harmed = true, h.By != 0
		m.frames = slices.Clone(m.frames)
		m.frames[h.Id] = f
		return done
	case kindCarry:
		if !there || !f.there {
			return refused(errNone)
		}
		if f.harmed {
			return refused(errSum)
		}
		return m.answer(f.arrival)
	case kindReturn:
		if !there || f.there {
			return refused(errNone)
		}
		if f.harmed {
			return refused(errSum)
		}
		x := m.do(f.deed)
		if x.Code != ok {
			return refused(x.Code)
		}
		return left(x.Left)
	case kindDrain:
		return m.answer(api.Arrival{Kind: api.Take, Count: h.Count})
	}
	return refused(errKind)
}

func (m *model) answer(a api.Arrival) api.Passed {
	x := m.hear(a)
	if x.Code != ok {
		return refused(x.Code)
	}
	id := m.put(flown{size: head + perSack*len(x.Sacks), deed: api.Deed{Kind: api.Heard, Ack: x.Ack, Window: x.Window, Sacks: x.Sacks}})
	return api.Passed{Put: true, Id: id, Data: x.Data, End: x.End}
}

func TestAllShortLists(t *testing.T) {
	alphabet := []func(m *model) api.Hop{
		func(m *model) api.Hop { return give(2*len(m.deeds), 2) },
		func(m *model) api.Hop { return shut },
		func(m *model) api.Hop { return send1 },
		func(m *model) api.Hop { return expire },
		func(m *model) api.Hop { return carry(0) },
		func(m *model) api.Hop { return carry(len(m.frames) - 1) },
		func(m *model) api.Hop { return back(len(m.frames) - 1) },
		func(m *model) api.Hop { return back(1) },
		func(m *model) api.Hop { return drain(3) },
		func(m *model) api.Hop { return hit(len(m.frames)-1, 11, 1) },
	}
	for i, room := range []int{1, 3, 70} {
		first := []int{65535, 65534, 0}[i]
		var walk func(m model, l []api.Hop, want []api.Passed)
		walk = func(m model, l []api.Hop, want []api.Passed) {
			if len(l) == 5 {
				isList(t, first, room, l, want)
				return
			}
			for _, f := range alphabet {
				next := m // what it has is not changed, but made anew
				h := f(&m)
				x := next.act(h)
				walk(next, append(l[:len(l):len(l)], h), append(want[:len(want):len(want)], x))
			}
		}
		begin := model{room: room}
		l, want := []api.Hop{give(0, 2), send1}, []api.Passed{}
		walk(begin, nil, nil)
		for _, h := range l {
			want = append(want, begin.act(h))
		}
		walk(begin, l, want)
	}
}

// dice: numbers that look as if by chance, the same ones each time.
func dice(seed uint32) func(n int) int {
	return func(n int) int {
		seed = seed*1664525 + 1013904223
		return int(seed>>8) % n
	}
}

// pick: the number of a frame there, or back; mostly of one of the last ones.
func (m *model) pick(there bool, chance func(n int) int) int {
	var ids []int
	for id, f := range m.frames {
		if f.there == there {
			ids = append(ids, id)
		}
	}
	switch {
	case len(ids) == 0:
		return chance(3) - 1
	case chance(4) == 0:
		return ids[chance(len(ids))]
	}
	return ids[len(ids)-1-chance(min(12, len(ids)))]
}

// chanceHop: a hop that mostly may be, after what the model knows.
func chanceHop(m *model, given int, chance func(n int) int) api.Hop {
	switch k := chance(60); {
	case k < 9:
		return give(given, 1+chance(5)*chance(12))
	case k < 24:
		return send1
	case k < 36:
		return carry(m.pick(true, chance))
	case k < 46:
		return back(m.pick(false, chance))
	case k < 50:
		return drain(chance(60))
	case k < 54:
		return expire
	case k == 54 && chance(9) == 0:
		return shut
	case k < 57:
		return hit(chance(len(m.frames)+2)-1, chance(20)-1, byte(chance(256)))
	case k == 57:
		return hit(chance(len(m.frames)+1), chance(9), 0)
	case k == 58: // mostly refused
		return litter(api.Hop{Kind: []int{kindGive, kindCarry, kindReturn, kindDrain, kindHit, 0, 9}[chance(7)], Data: text(given, widest+1), Id: chance(len(m.frames) + 1), Count: chance(9) - 4}, chance(60))
	}
	return litter(send1, chance(60))
}

// mixed: so many hops, and what the model says of them.
func mixed(room, n int, chance func(n int) int) ([]api.Hop, []api.Passed) {
	m := model{room: room}
	given := 0
	var l []api.Hop
	var want []api.Passed
	for range n {
		h := chanceHop(&m, given, chance)
		x := m.act(h)
		if h.Kind == kindGive && x.Code == ok {
			given += len(h.Data)
		}
		l, want = append(l, h), append(want, x)
	}
	return l, want
}

func TestLongLists(t *testing.T) {
	codes := map[api.Errno]int{}
	ends := 0
	for n := range 240 {
		chance := dice(uint32(n))
		room := []int{1, 20, 64, 150, 500, widest}[n%6]
		l, want := mixed(room, events-n%3*80, chance)
		isList(t, chance(round), room, l, want)
		for _, x := range want {
			codes[x.Code]++
			if x.End {
				ends++
			}
		}
	}
	for _, code := range []api.Errno{ok, errSize, errRange, errKind, errSum, errNone, errTwice, errState} {
		if codes[code] == 0 {
			t.Errorf("none came to %d", code)
		}
	}
	if ends == 0 {
		t.Error("none came to its end")
	}
}

// What comes of it.

// played: what hops came to, hop by hop, with what of it matters here.
type played struct {
	t       *testing.T
	line    api.Line
	l       []api.Hop
	drained []byte
	end     bool
	there   []int // frames of Send
	back    []int // the others
}

// pass: what one more hop comes to.
func (p *played) pass(h api.Hop) api.Passed {
	p.t.Helper()
	p.l = append(p.l, h)
	got, code := pipe.Play(p.line, p.l)
	if code != ok || len(got) != len(p.l) {
		p.t.Fatalf("Play(%d, %q): %d told, %d", p.line, sketches(p.l), len(got), code)
	}
	x := got[len(got)-1]
	p.drained = append(p.drained, x.Data...)
	p.end = p.end || x.End
	switch {
	case x.Put && h.Kind == kindSend:
		p.there = append(p.there, x.Id)
	case x.Put:
		p.back = append(p.back, x.Id)
	}
	return x
}

// TestWhatIsDrainedIsWhatWasGiven: frames are lost, doubled, late and harmed as if by chance; as far as it came it is the stream, and if they come, all of it.
func TestWhatIsDrainedIsWhatWasGiven(t *testing.T) {
	for n := range 60 {
		chance := dice(uint32(n + 99))
		size := 1 + chance(500)
		p := played{t: t, line: api.Line{First: round - 1 - chance(2*size)*(n%2), Room: []int{40, 100, 700, widest}[n%4]}}
		p.pass(give(0, size))
		p.pass(shut)
		for len(p.l) < 130 {
			p.byChance(chance)
			if !bytes.Equal(p.drained, text(0, len(p.drained))) || p.end && len(p.drained) != size {
				t.Fatalf("%d, %q: drained %v", p.line, sketches(p.l), p.drained)
			}
		}
		left := 1
		for left > 0 && len(p.l) < events-5 {
			left = p.byTurns()
		}
		p.pass(drain(widest))
		if left != 0 || !p.end || !bytes.Equal(p.drained, text(0, size)) {
			t.Fatalf("%d, %q: left %d, end %v, drained %d of %d", p.line, sketches(p.l), left, p.end, len(p.drained), size)
		}
	}
}

// byChance: a hop that may lose, double, delay or harm.
func (p *played) byChance(chance func(n int) int) {
	p.t.Helper()
	one := func(l []int) int { return l[len(l)-1-chance(min(len(l), 9))] }
	switch k := chance(20); {
	case k < 7 && len(p.there) > 0:
		p.pass(carry(one(p.there)))
	case k < 11 && len(p.back) > 0:
		p.pass(back(one(p.back)))
	case k < 13 && len(p.there)+len(p.back) > 0:
		p.pass(hit(chance(len(p.there)+len(p.back)), chance(head), byte(1+chance(255))))
	case k < 14:
		p.pass(expire)
	case k < 16:
		p.pass(drain(chance(80)))
	default:
		p.pass(send1)
	}
}

// byTurns: all that is to be sent, each frame of which comes, and so does its answer; how much is left then.
func (p *played) byTurns() int {
	p.t.Helper()
	x := p.pass(send1)
	if !x.Put {
		p.pass(back(p.pass(drain(widest)).Id))
		return p.pass(expire).Left
	}
	return p.pass(back(p.pass(carry(x.Id)).Id)).Left
}

// What holds everywhere.

// lists: hops of all kinds, some of which are refused.
func lists() [][]api.Hop {
	out := [][]api.Hop{nil, {}, {send1}, {give(0, 100), send1, send1, carry(1), carry(0), drain(9), back(2), shut, send1, carry(5), drain(0), drain(99), drain(99)}, {give(0, widest+1), {}, drain(-1), carry(3)}, slices.Repeat([]api.Hop{give(0, 3)}, events+1), hops(with(before(), refusals()...))}
	for n := range 20 {
		l, _ := mixed(200, 60, dice(uint32(n+7)))
		out = append(out, l)
	}
	return out
}

// roomy: the same hops, with spare room behind the list, and behind each list in it.
func roomy(l []api.Hop) []api.Hop {
	out := make([]api.Hop, 0, len(l)+5)
	for _, h := range l {
		h.Data = append(slices.Clone(h.Data), text(99, 200)...)[:len(h.Data)]
		out = append(out, h)
	}
	copy(out[len(out):cap(out)], []api.Hop{{Kind: 77, Id: 78}, {Kind: 79, Count: 80}, {Data: text(1, 3), By: 7}})
	return out
}

// whole: all that stands in hops, in spare room, too.
func whole(l []api.Hop) string {
	var s []byte
	for _, h := range l[:cap(l)] {
		s = fmt.Appendln(s, h.Kind, h.Data[:cap(h.Data)], len(h.Data), h.Id, h.At, h.By, h.Count)
	}
	return string(s)
}

var line = api.Line{First: 65500, Room: 200}

// answers: what these hops come to, as one text.
func answers(l []api.Hop) string { return shows(pipe.Play(line, l)) }

func TestWhatIsHandedInIsNotChanged(t *testing.T) {
	for _, l := range lists() {
		l = roomy(l)
		before := whole(l)
		pipe.Play(line, l)
		if whole(l) != before {
			t.Fatalf("%q: changed", sketches(l))
		}
	}
}

// scrawl: over the bytes of one that is told, in spare room, too.
func scrawl(x api.Passed) {
	for i := range x.Data[:cap(x.Data)] {
		x.Data[:cap(x.Data)][i] ^= 0xff
	}
}

func TestWhatComesOutIsNewMemory(t *testing.T) {
	for _, l := range lists() {
		l = roomy(l)
		before := whole(l)
		want := answers(l)
		one, _ := pipe.Play(line, l)
		two, code := pipe.Play(line, l)
		for i := range one {
			scrawl(one[i])
		}
		for i := range one[:cap(one)] {
			one[:cap(one)][i] = api.Passed{Code: 99, Left: 98, Id: 97}
		}
		if shows(two, code) != want || answers(l) != want || whole(l) != before {
			t.Fatalf("%q: an answer shares memory with another one, or with what was handed in", sketches(l))
		}
	}
}

func TestNoTwoListsOfOneAnswerShareMemory(t *testing.T) {
	for _, l := range lists() {
		got, _ := pipe.Play(line, l)
		for i := range got {
			before := make([]string, len(got))
			for j := range got {
				before[j] = show(got[j])
			}
			scrawl(got[i])
			for j := range got {
				if j != i && show(got[j]) != before[j] {
					t.Fatalf("%q: lists of %d and %d share memory", sketches(l), i, j)
				}
			}
		}
	}
}

func TestWhatIsHandedInIsNotKept(t *testing.T) {
	for _, l := range lists() {
		l = roomy(l)
		want := answers(l)
		got, code := pipe.Play(line, l)
		for i := range l {
			for k := range l[i].Data[:cap(l[i].Data)] {
				l[i].Data[:cap(l[i].Data)][k] ^= 0xff
			}
			l[i] = api.Hop{}
		}
		if shows(got, code) != want {
			t.Fatal("an answer changed with what was handed in")
		}
	}
}

func TestAnswersHangOnArgumentsAlone(t *testing.T) {
	all := lists()
	var want []string
	for _, l := range all {
		want = append(want, answers(l))
	}
	for i, l := range slices.Backward(all) {
		if answers(l) != want[i] {
			t.Fatalf("%q: asked again, another answer", sketches(l))
		}
	}
	var hands sync.WaitGroup
	for range 4 {
		hands.Go(func() {
			for i, l := range all {
				if answers(l) != want[i] {
					t.Error("asked at the same time, another answer")
				}
			}
		})
	}
	hands.Wait()
}
