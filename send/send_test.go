package send_test

import (
	"bytes"
	"fmt"
	"math"
	"slices"
	"sync"
	"testing"

	"packthread/api"
	"packthread/send"
)

// The limits, the kinds and the numbers of errors, written out: they must not move with the program.
const (
	most   = 1048576 // places of a stream
	body   = 4096    // bytes of one Submit
	packet = 64      // bytes that are sent at once
	widest = 65535
	events = 300
	holes  = 16
	blocks = 3

	kindSubmit  = 1
	kindHeard   = 2
	kindPoll    = 3
	kindTimeout = 4
	kindClose   = 5

	ok       = api.Errno(0)
	errSize  = api.Errno(1)
	errRange = api.Errno(2)
	errKind  = api.Errno(3)
	errFull  = api.Errno(9)
	errState = api.Errno(10)
)

// text: n bytes of a stream from a place on; each place has its own look for a long way.
func text(from, n int) []byte {
	b := make([]byte, n)
	for i := range b {
		p := from + i
		b[i] = byte(p*37 + p>>8*11 + p>>16*5 + 3)
	}
	return b
}

// pair: a deed, and what it should come to.
type pair struct {
	deed api.Deed
	want api.Sent
}

// Deeds.

var (
	poll    = api.Deed{Kind: kindPoll}
	timeout = api.Deed{Kind: kindTimeout}
	end     = api.Deed{Kind: kindClose}
)

// submit: n bytes of the stream, from a place on.
func submit(from, n int) api.Deed { return api.Deed{Kind: kindSubmit, Data: text(from, n)} }

// heard: with Sacks of two and two numbers.
func heard(ack, window int, sacks ...int) api.Deed {
	return api.Deed{Kind: kindHeard, Ack: ack, Window: window, Sacks: ranges(sacks...)}
}

func ranges(l ...int) []api.Range {
	var out []api.Range
	for ; len(l) > 0; l = l[2:] {
		out = append(out, api.Range{From: l[0], To: l[1]})
	}
	return out
}

// What deeds come to.

func left(n int) api.Sent { return api.Sent{Left: n} }

func refused(code api.Errno, left int) api.Sent { return api.Sent{Code: code, Left: left} }

func idle(left int) api.Sent { return api.Sent{Idle: true, Left: left} }

// sent: n bytes from a place on, for the first time.
func sent(from, n, left int) api.Sent {
	return api.Sent{From: from, Data: text(from, n), Left: left}
}

// last: these, and the end.
func last(from, n, left int) api.Sent {
	x := sent(from, n, left)
	x.Fin = true
	return x
}

// anew: what was sent before.
func anew(x api.Sent) api.Sent {
	x.Again = true
	return x
}

// same: whether two of what deeds come to are alike; without bytes Data may be nil or not.
func same(a, b api.Sent) bool {
	return a.Code == b.Code && a.From == b.From && bytes.Equal(a.Data, b.Data) && a.Fin == b.Fin && a.Again == b.Again && a.Idle == b.Idle && a.Left == b.Left
}

func show(x api.Sent) string {
	return fmt.Sprintf("{Code %d From %d Data %v Fin %v Again %v Idle %v Left %d}", x.Code, x.From, x.Data, x.Fin, x.Again, x.Idle, x.Left)
}

// sketch: a deed, with as many bytes instead of which ones.
func sketch(d api.Deed) string {
	switch d.Kind {
	case kindSubmit:
		return fmt.Sprintf("Submit %d", len(d.Data))
	case kindHeard:
		return fmt.Sprintf("Heard %d %d %v", d.Ack, d.Window, d.Sacks)
	case kindPoll:
		return "Poll"
	case kindTimeout:
		return "Timeout"
	case kindClose:
		return "Close"
	}
	return fmt.Sprintf("Kind %d", d.Kind)
}

func sketches(l []api.Deed) (out []string) {
	for _, d := range l {
		out = append(out, sketch(d))
	}
	return out
}

// isList: these deeds come to what is wanted.
func isList(t *testing.T, window int, l []api.Deed, want []api.Sent) {
	t.Helper()
	got, code := send.Play(window, l)
	if code != ok || len(got) != len(want) {
		t.Fatalf("Play(%d, %q): %d told, %d; want %d", window, sketches(l), len(got), code, len(want))
	}
	for i := range got {
		if !same(got[i], want[i]) {
			t.Fatalf("Play(%d, %q), at %d: %s, want %s", window, sketches(l[:i+1]), i, show(got[i]), show(want[i]))
		}
	}
}

// isPlay: each deed comes to what stands beside it, also when nothing follows, and whatever stands in what its kind does not have.
func isPlay(t *testing.T, window int, pairs ...pair) {
	t.Helper()
	var l, littered []api.Deed
	var want []api.Sent
	isList(t, window, nil, nil)
	for i, p := range pairs {
		l, want = append(l, p.deed), append(want, p.want)
		littered = append(littered, litter(p.deed, i))
		isList(t, window, l, want)
	}
	isList(t, window, littered, want)
}

// litter: a deed with odd things in all that its kind does not have.
func litter(d api.Deed, n int) api.Deed {
	odd := []int{math.MinInt64, -1, 1, 70000, math.MaxInt64}[n%5]
	if d.Kind != kindSubmit {
		d.Data = make([]byte, body*2*(n%2)+n%9)
	}
	if d.Kind != kindHeard {
		d.Ack, d.Window, d.Sacks = odd, odd, slices.Repeat(ranges(odd, -odd), n%6)
	}
	return d
}

// isCode: all of these deeds together are refused, and nothing is told beside that.
func isCode(t *testing.T, window int, l []api.Deed, want api.Errno) {
	t.Helper()
	if got, code := send.Play(window, l); code != want || len(got) != 0 {
		t.Fatalf("Play(%d, %q): %d told, %d; want none, %d", window, sketches(l), len(got), code, want)
	}
}

// times: one pair, so many times.
func times(n int, p pair) []pair { return slices.Repeat([]pair{p}, n) }

// with: these pairs behind those, in new memory.
func with(l []pair, more ...pair) []pair { return append(slices.Clone(l), more...) }

// far: numbers beyond all bounds, some of which look small when bits are cut off.
func far() []int {
	return []int{
		1<<31 - 1, 1 << 31, 1<<31 + 1, 1<<32 - 1, 1 << 32, 1<<32 + 1, 1<<32 + 5, 1<<32 + 64, 1<<48 + 7, 1 << 62, 1<<62 + 3, math.MaxInt64 - 65535, math.MaxInt64 - 64, math.MaxInt64 - 1, math.MaxInt64,
		-1, -2, -3, -64, -255, -65535, -65536, -most, -1 << 31, -1<<31 + 5, -1<<32 + 5, -1 << 32, -1<<48 + 1, -1 << 62, -1<<62 + 3, math.MinInt64 + 65535, math.MinInt64 + 64, math.MinInt64 + 5, math.MinInt64 + 1, math.MinInt64,
	}
}

func noWindows() []int {
	return append([]int{widest + 1, widest + 2, 2 * widest, 1 << 17, most}, far()...)
}

func noKinds() []int { return append([]int{0, 6, 7, 8, 9, 16, 255, 256, 257, 65537}, far()...) }

// P7.1: at first, and what is refused as a whole.

func TestNoDeedAtAll(t *testing.T) {
	for _, window := range []int{0, 1, 64, widest} {
		isCode(t, window, nil, ok)
		isCode(t, window, []api.Deed{}, ok)
		isCode(t, window, make([]api.Deed, 0, 9), ok)
	}
}

func TestAtFirst(t *testing.T) {
	for _, window := range []int{0, 1, 64, widest} { // nothing was submitted, sent, or heard of
		isPlay(t, window, pair{poll, idle(0)})
		isPlay(t, window, pair{timeout, left(0)}, pair{poll, idle(0)})
		isPlay(t, window, pair{heard(0, 0), left(0)}, pair{poll, idle(0)})
		isPlay(t, window, pair{heard(1, 0), refused(errRange, 0)}, pair{poll, idle(0)})
		isPlay(t, window, pair{heard(0, 0, 0, 1), refused(errRange, 0)}, pair{poll, idle(0)})
	}
}

func TestTheEdgeAtFirstIsTheWindow(t *testing.T) {
	for window := range 3 * packet {
		p := []pair{{submit(0, 200), left(200)}}
		from := 0
		for ; from < window; from += packet {
			p = append(p, pair{poll, sent(from, min(packet, window-from), 200)})
		}
		isPlay(t, window, append(p, pair{poll, idle(200)})...)
	}
}

func TestNoSuchWindow(t *testing.T) {
	for _, window := range noWindows() {
		for _, l := range [][]api.Deed{nil, {}, {poll}, {submit(0, 9), poll}, {{}}, slices.Repeat([]api.Deed{poll}, events), slices.Repeat([]api.Deed{poll}, events+1)} {
			isCode(t, window, l, errRange) // ahead of ErrSize, too
		}
	}
	for window := -300; window <= widest+300; window++ {
		want := ok
		if window < 0 || window > widest {
			want = errRange
		}
		isCode(t, window, nil, want)
	}
}

func TestAsManyDeedsAsMayBeAndOneMore(t *testing.T) {
	for _, d := range []api.Deed{poll, timeout, end, submit(0, 0), submit(0, 5), heard(0, 9), {}, {Kind: 6}} {
		for _, n := range []int{events - 1, events} {
			if got, code := send.Play(7, slices.Repeat([]api.Deed{d}, n)); code != ok || len(got) != n {
				t.Fatalf("%d of %s: %d told, %d", n, sketch(d), len(got), code)
			}
		}
		for _, n := range []int{events + 1, events + 2, 2 * events, 65536, 65537} {
			isCode(t, 7, slices.Repeat([]api.Deed{d}, n), errSize)
			isCode(t, 0, slices.Repeat([]api.Deed{d}, n), errSize)
			isCode(t, widest, slices.Repeat([]api.Deed{d}, n), errSize)
		}
	}
}

func TestTheGreatestWindow(t *testing.T) {
	p := []pair{{end, left(1)}}
	for n := range 17 { // 17 times 4096 are more than the window
		p = slices.Insert(p, n, pair{submit(n*body, body), left((n + 1) * body)})
	}
	p[17].want = left(17*body + 1)
	for n := range events - 18 {
		p = append(p, pair{poll, sent(n*packet, packet, 17*body+1)})
	}
	var l []api.Deed
	var want []api.Sent
	for _, x := range p {
		l, want = append(l, x.deed), append(want, x.want)
	}
	isList(t, widest, l, want)
	isModel(t, widest, l)
}

// The document's examples.

func TestThreeSegmentsOfWhichOneIsLost(t *testing.T) {
	isPlay(t, 4096,
		pair{submit(0, 192), left(192)},
		pair{poll, sent(0, 64, 192)},
		pair{poll, sent(64, 64, 192)},
		pair{poll, sent(128, 64, 192)},
		pair{poll, idle(192)},
		pair{heard(64, 4032, 128, 192), left(64)},
		pair{poll, idle(64)}, // who sends waits
		pair{timeout, left(64)},
		pair{poll, anew(sent(64, 64, 64))}, // and sends the second one alone again
		pair{poll, idle(64)},
		pair{heard(192, 4096), left(0)},
		pair{timeout, left(0)},
		pair{poll, idle(0)},
	)
}

func TestOneBehindAnother(t *testing.T) {
	isPlay(t, 90,
		pair{submit(0, 100), left(100)},
		pair{poll, sent(0, 64, 100)},
		pair{poll, sent(64, 26, 100)}, // up to the edge
		pair{poll, idle(100)},
		pair{heard(10, 200, 64, 90), left(64)},
		pair{end, left(65)},
		pair{poll, last(90, 10, 65)},
		pair{timeout, left(65)},
		pair{poll, anew(sent(10, 54, 65))},
		pair{poll, anew(last(90, 10, 65))},
		pair{poll, idle(65)},
		pair{heard(101, 0), left(0)},
		pair{submit(100, 0), refused(errState, 0)},
		pair{heard(102, 0), refused(errRange, 0)},
		pair{api.Deed{Kind: 9}, refused(errKind, 0)},
	)
}

// P7.1: Submit.

func TestSubmitOfAllSizes(t *testing.T) {
	for _, n := range []int{0, 1, 2, 63, 64, 65, 1000, body - 1, body} {
		p := []pair{{submit(0, n), left(n)}}
		for from := 0; from < n; from += packet {
			p = append(p, pair{poll, sent(from, min(packet, n-from), n)})
		}
		isPlay(t, widest, append(p, pair{poll, idle(n)})...)
	}
	for _, n := range []int{body + 1, body + 2, 2 * body, 65536, most - 1, most, 2 * most} {
		isPlay(t, widest, pair{submit(0, n), refused(errSize, 0)}, pair{poll, idle(0)}, pair{submit(0, 3), left(3)}, pair{poll, sent(0, 3, 3)})
	}
}

func TestSubmitStandsBehindWhatWasSubmitted(t *testing.T) {
	isPlay(t, 100,
		pair{submit(0, 1), left(1)}, pair{submit(1, 2), left(3)}, pair{submit(3, 0), left(3)}, pair{submit(3, 70), left(73)},
		pair{poll, sent(0, 64, 73)},
		pair{submit(73, 5), left(78)},
		pair{poll, sent(64, 14, 78)},
		pair{submit(78, 1), left(79)},
		pair{poll, sent(78, 1, 79)},
		pair{heard(70, 100), left(9)},
		pair{submit(79, 4), left(13)},
		pair{poll, sent(79, 4, 13)},
		pair{submit(83, body+1), refused(errSize, 13)}, // does nothing else
		pair{submit(83, 2), left(15)},
		pair{poll, sent(83, 2, 15)},
	)
}

func TestSubmitToOneThatIsClosed(t *testing.T) {
	for _, n := range []int{0, 1, 64, body, body + 1, most} { // ErrState is told ahead of ErrSize
		isPlay(t, 9, pair{end, left(1)}, pair{submit(0, n), refused(errState, 1)}, pair{poll, last(0, 0, 1)}, pair{submit(0, n), refused(errState, 1)}, pair{heard(1, 0), left(0)}, pair{submit(0, n), refused(errState, 0)})
		isPlay(t, 9, pair{submit(0, 5), left(5)}, pair{end, left(6)}, pair{submit(5, n), refused(errState, 6)}, pair{poll, last(0, 5, 6)}, pair{poll, idle(6)})
	}
}

// nearFull: deeds behind which most-1-short bytes are submitted.
func nearFull(short int) []pair {
	var p []pair
	for n := 0; n < most-1-short; {
		add := min(body, most-1-short-n)
		p = append(p, pair{submit(n, add), left(n + add)})
		n += add
	}
	return p
}

// isLong: as isPlay, but not for each beginning: there are many bytes.
func isLong(t *testing.T, window int, pairs ...pair) {
	t.Helper()
	var l []api.Deed
	var want []api.Sent
	for _, p := range pairs {
		l, want = append(l, p.deed), append(want, p.want)
	}
	isList(t, window, l, want)
}

func TestSubmitOfAsManyAsThereArePlaces(t *testing.T) {
	const all = most - 1
	isLong(t, 64, with(nearFull(0), // just below MaxPos
		pair{submit(all, 1), refused(errFull, all)},
		pair{submit(all, 0), left(all)},
		pair{submit(all, body), refused(errFull, all)},
		pair{submit(all, body+1), refused(errSize, all)}, // told ahead of ErrFull
		pair{poll, sent(0, 64, all)},
		pair{heard(64, 64), left(all - 64)},
		pair{submit(all, 1), refused(errFull, all-64)}, // also when some of it is heard of
		pair{end, left(all - 64 + 1)},
		pair{submit(all, 1), refused(errState, all-64+1)},
		pair{submit(all, body+1), refused(errState, all-64+1)},
		pair{poll, sent(64, 64, all-64+1)},
	)...)
	isLong(t, 64, with(nearFull(1),
		pair{submit(all-1, 2), refused(errFull, all-1)}, // just MaxPos
		pair{submit(all-1, 3), refused(errFull, all-1)},
		pair{submit(all-1, 1), left(all)},
		pair{submit(all, 1), refused(errFull, all)},
	)...)
	isLong(t, 0, with(nearFull(body-1),
		pair{submit(most-body, body), refused(errFull, most-body)}, // 256 times 4096 are just MaxPos
		pair{submit(most-body, body+1), refused(errSize, most-body)},
		pair{submit(most-body, body-1), left(all)},
		pair{end, left(all + 1)},
		pair{end, refused(errState, all+1)},
	)...)
	isLong(t, 0, with(nearFull(body), pair{submit(all-body, body), left(all)}, pair{submit(all, 1), refused(errFull, all)})...)
}

// P7.1: Close.

func TestCloseWithNothingSubmitted(t *testing.T) {
	isPlay(t, 1, pair{end, left(1)}, pair{poll, last(0, 0, 1)}, pair{poll, idle(1)}, pair{heard(1, 0), left(0)}, pair{poll, idle(0)}, pair{timeout, left(0)}, pair{poll, idle(0)})
	isPlay(t, 0, pair{end, left(1)}, pair{poll, idle(1)}, pair{heard(0, 0), left(1)}, pair{poll, idle(1)}, pair{heard(0, 1), left(1)}, pair{poll, last(0, 0, 1)})
	isPlay(t, 0, pair{submit(0, 0), left(0)}, pair{end, left(1)}, pair{timeout, left(1)}, pair{poll, last(0, 0, 1)}, pair{timeout, left(1)}, pair{poll, anew(last(0, 0, 1))}, pair{poll, idle(1)})
}

func TestCloseTwice(t *testing.T) {
	isPlay(t, 9, pair{end, left(1)}, pair{end, refused(errState, 1)}, pair{end, refused(errState, 1)}, pair{poll, last(0, 0, 1)}, pair{end, refused(errState, 1)}, pair{heard(1, 0), left(0)}, pair{end, refused(errState, 0)})
	isPlay(t, 9, pair{submit(0, 20), left(20)}, pair{end, left(21)}, pair{poll, sent(0, 9, 21)}, pair{end, refused(errState, 21)}, pair{heard(9, 12), left(12)}, pair{end, refused(errState, 12)}, pair{poll, last(9, 11, 12)}, pair{poll, idle(12)})
}

func TestTheEndHasAPlaceOnlyWhenClosed(t *testing.T) {
	isPlay(t, 100,
		pair{submit(0, 10), left(10)}, pair{poll, sent(0, 10, 10)}, pair{poll, idle(10)},
		pair{heard(11, 0), refused(errRange, 10)},
		pair{end, left(11)},
		pair{heard(11, 0), refused(errRange, 11)}, // it was never sent
		pair{poll, last(10, 0, 11)},
		pair{heard(12, 0), refused(errRange, 11)},
		pair{heard(10, 0), left(1)},
		pair{heard(11, 0), left(0)},
	)
}

// P7.1: Heard.

func TestHeardOfAllAcks(t *testing.T) {
	head := []pair{{submit(0, 100), left(100)}, {poll, sent(0, 64, 100)}}
	for ack := -70; ack <= 140; ack++ {
		if ack >= 0 && ack <= 64 { // 64 is the first place that was never sent
			isPlay(t, 64, with(head, pair{heard(ack, 0), left(100 - ack)}, pair{heard(ack, 0), left(100 - ack)}, pair{timeout, left(100 - ack)}, pair{poll, resent(ack, 64, 100-ack)})...)
		} else {
			isPlay(t, 64, with(head, pair{heard(ack, 9), refused(errRange, 100)}, pair{poll, idle(100)}, pair{timeout, left(100)}, pair{poll, anew(sent(0, 64, 100))})...)
		}
	}
}

// resent: what is sent behind a Timeout of places up to to, when all ahead of ack are heard of. (A Timeout with all heard of lets one more be sent.)
func resent(ack, to, left int) api.Sent {
	if ack < to {
		return anew(sent(ack, to-ack, left))
	}
	return sent(to, 1, left)
}

func TestHeardOfLessThanBeforeChangesNothing(t *testing.T) {
	isPlay(t, 64,
		pair{submit(0, 64), left(64)}, pair{poll, sent(0, 64, 64)},
		pair{heard(40, 0), left(24)}, pair{heard(10, 0), left(24)}, pair{heard(0, 0), left(24)}, pair{heard(5, 0, 6, 20), left(24)}, pair{heard(0, 0, 0, 40, 3, 4), left(24)},
		pair{heard(0, 0, 30, 45), left(19)}, // goes on from what is heard of
		pair{timeout, left(19)}, pair{poll, anew(sent(45, 19, 19))},
	)
}

func TestTheEdgeIsAckAndWindow(t *testing.T) {
	head := []pair{{submit(0, 300), left(300)}, {poll, sent(0, 20, 300)}, {poll, idle(300)}}
	for ack := 0; ack <= 20; ack += 5 {
		for window := range 100 {
			p := with(head, pair{heard(ack, window), left(300 - ack)})
			if n := ack + window - 20; n > 0 {
				p = append(p, pair{poll, sent(20, min(n, packet), 300-ack)})
				if n > packet {
					p = append(p, pair{poll, sent(20+packet, n-packet, 300-ack)})
				}
			}
			isPlay(t, 20, append(p, pair{poll, idle(300 - ack)})...)
		}
	}
}

func TestTheEdgeIsNotDrawnBack(t *testing.T) {
	isPlay(t, 50,
		pair{submit(0, 300), left(300)}, pair{poll, sent(0, 50, 300)},
		pair{heard(10, 60), left(290)},                              // the edge is 70
		pair{heard(10, 5), left(290)},                               // not 15
		pair{heard(20, 49), left(280)},                              // nor 69
		pair{heard(0, 69), left(280)}, pair{heard(0, 0), left(280)}, // nor 69, nor 0
		pair{poll, sent(50, 20, 280)}, pair{poll, idle(280)},
		pair{heard(0, 71), left(280)}, // 71, though nothing new is heard of
		pair{poll, sent(70, 1, 280)}, pair{poll, idle(280)},
		pair{heard(0, 71), left(280)}, pair{poll, idle(280)},
		pair{heard(71, 0), left(229)}, pair{poll, idle(229)},
		pair{heard(71, 1), left(229)}, pair{poll, sent(71, 1, 229)}, pair{poll, idle(229)},
	)
}

func TestTheEdgeIsOfAckAndNotOfWhatIsHeardOf(t *testing.T) {
	isPlay(t, 50,
		pair{submit(0, 300), left(300)}, pair{poll, sent(0, 50, 300)},
		pair{heard(10, 41, 10, 40), left(260)}, // all up to 40, but the edge is 51
		pair{poll, sent(50, 1, 260)}, pair{poll, idle(260)},
		pair{heard(5, 50, 41, 51), left(250)}, // 55
		pair{poll, sent(51, 4, 250)}, pair{poll, idle(250)},
	)
}

func TestWindowsOfHeard(t *testing.T) {
	head := []pair{{submit(0, 70), left(70)}, {poll, sent(0, 5, 70)}}
	isPlay(t, 5, with(head, pair{heard(3, widest), left(67)}, pair{poll, sent(5, 64, 67)}, pair{poll, sent(69, 1, 67)})...)
	isPlay(t, 5, with(head, pair{heard(3, 1), left(67)}, pair{poll, idle(67)})...)
	isPlay(t, 5, with(head, pair{heard(5, 1), left(65)}, pair{poll, sent(5, 1, 65)}, pair{poll, idle(65)})...)
	for _, window := range noWindows() {
		isPlay(t, 5, with(head, pair{heard(3, window), refused(errRange, 70)}, pair{heard(0, window, 2, 3), refused(errRange, 70)}, pair{poll, idle(70)}, pair{timeout, left(70)}, pair{poll, anew(sent(0, 5, 70))})...)
	}
}

func TestSacks(t *testing.T) {
	head := []pair{{submit(0, 100), left(100)}, {poll, sent(0, 64, 100)}}
	for _, c := range []struct {
		deed  api.Deed
		left  int
		again []api.Range // what is sent again behind a Timeout
	}{
		{heard(0, 0, 5, 6), 99, ranges(0, 5, 6, 64)},                     // one place
		{heard(0, 0, 63, 64), 99, ranges(0, 63)},                         // up to the first place that was never sent
		{heard(0, 0, 0, 1), 99, ranges(1, 64)},                           // the first one
		{heard(0, 0, 0, 64), 36, nil},                                    // all that was sent
		{heard(0, 0, 10, 20, 20, 30), 80, ranges(0, 10, 30, 64)},         // they touch
		{heard(0, 0, 20, 30, 10, 20), 80, ranges(0, 10, 30, 64)},         // also turned round
		{heard(0, 0, 10, 30, 15, 20), 80, ranges(0, 10, 30, 64)},         // one lies within the other
		{heard(0, 0, 15, 20, 10, 30), 80, ranges(0, 10, 30, 64)},         // also turned round
		{heard(0, 0, 10, 20, 15, 30), 80, ranges(0, 10, 30, 64)},         // they share places
		{heard(0, 0, 10, 20, 10, 20, 10, 20), 90, ranges(0, 10, 20, 64)}, // one comes again
		{heard(0, 0, 10, 20, 30, 40, 20, 30), 70, ranges(0, 10, 40, 64)}, // one joins two
		{heard(0, 0, 50, 60, 30, 40, 10, 20), 70, ranges(0, 10, 20, 30, 40, 50, 60, 64)},
		{heard(10, 0, 10, 20), 80, ranges(20, 64)},                           // touches Ack
		{heard(10, 0, 5, 20), 80, ranges(20, 64)},                            // begins ahead of it
		{heard(10, 0, 2, 8), 90, ranges(10, 64)},                             // all ahead of it
		{heard(10, 0, 11, 20), 81, ranges(10, 11, 20, 64)},                   // just beyond it
		{heard(10, 0, 20, 30, 10, 20), 70, ranges(30, 64)},                   // joins Ack and one
		{heard(64, 0, 20, 30), 36, nil},                                      // ahead of all that was sent
		{heard(1, 0, 2, 3, 4, 5, 6, 7), 96, ranges(1, 2, 3, 4, 5, 6, 7, 64)}, // as many as may be
	} {
		p := with(head, pair{c.deed, left(c.left)}, pair{c.deed, left(c.left)}, pair{timeout, left(c.left)})
		for _, r := range c.again {
			p = append(p, pair{poll, anew(sent(r.From, r.To-r.From, c.left))})
		}
		if len(c.again) == 0 { // the edge is one more then
			p = append(p, pair{poll, sent(64, 1, c.left)})
		}
		isPlay(t, 64, append(p, pair{poll, idle(c.left)})...)
	}
}

func TestSacksBehindSacks(t *testing.T) {
	isPlay(t, 64,
		pair{submit(0, 64), left(64)}, pair{poll, sent(0, 64, 64)},
		pair{heard(0, 0, 40, 50), left(54)},
		pair{heard(0, 0, 20, 30), left(44)},
		pair{heard(0, 0, 40, 50), left(44)}, // comes again
		pair{heard(0, 0, 42, 44, 20, 21), left(44)},
		pair{heard(0, 0, 38, 42, 48, 52), left(40)},
		pair{heard(10, 0), left(30)},
		pair{heard(0, 0, 30, 38), left(22)}, // joins two
		pair{heard(10, 0, 10, 20), left(12)},
		pair{timeout, left(12)},
		pair{poll, anew(sent(52, 12, 12))}, pair{poll, idle(12)},
		pair{heard(52, 0, 63, 64), left(11)},
		pair{timeout, left(11)},
		pair{poll, anew(sent(52, 11, 11))}, pair{poll, idle(11)},
		pair{heard(63, 0), left(0)},
		pair{timeout, left(0)}, pair{poll, idle(0)},
	)
}

func TestNoSuchSacks(t *testing.T) {
	head := []pair{{submit(0, 100), left(100)}, {poll, sent(0, 64, 100)}, {heard(10, 0, 20, 30), left(80)}}
	tail := []pair{{poll, idle(80)}, {timeout, left(80)}, {poll, anew(sent(10, 10, 80))}, {poll, anew(sent(30, 34, 80))}, {poll, idle(80)}}
	bad := ranges(5, 5, 0, 0, 64, 64, 6, 5, 64, 0, -1, 5, -1, 0, -1, -1, -5, -3, 0, 65, 63, 65, 64, 65, 10, 100, 65, 66, 100, 101, 12, most, 12, 65536+14, most, most+1, 0, -1)
	for _, n := range far() {
		bad = append(bad, ranges(n, 5, 5, n, n, n, n, -n, n, n+1, n, 64)...)
	}
	for _, r := range bad {
		if r.From >= 0 && r.From < r.To && r.To <= 64 {
			continue // n+1 came round
		}
		for _, l := range [][]int{
			{r.From, r.To}, {r.From, r.To, 40, 50}, {40, 50, r.From, r.To}, {r.From, r.To, 40, 50, 55, 56}, {40, 50, r.From, r.To, 55, 56}, {40, 50, 55, 56, r.From, r.To}, {r.From, r.To, r.From, r.To, r.From, r.To},
		} {
			isLong(t, 64, with(with(head, pair{heard(15, 100, l...), refused(errRange, 80)}), tail...)...) // nothing is heard of, and the edge stays
		}
	}
}

func TestAllSacks(t *testing.T) {
	head := []pair{{submit(0, 9), left(9)}, {poll, sent(0, 7, 9)}}
	for from := -3; from <= 12; from++ {
		for to := -3; to <= 12; to++ {
			want := refused(errRange, 9)
			if from >= 0 && from < to && to <= 7 {
				want = left(9 - (to - from))
			}
			isPlay(t, 7, with(head, pair{heard(0, 0, from, to), want})...)
		}
	}
}

func TestAsManySacksAsMayBeAndOneMore(t *testing.T) {
	head := []pair{{submit(0, 64), left(64)}, {poll, sent(0, 64, 64)}}
	for n := range 20 {
		var l []int
		for i := range n {
			l = append(l, 2*i+1, 2*i+2)
		}
		want := left(64 - n)
		if n > blocks {
			want = refused(errSize, 64)
		}
		isPlay(t, 64, with(head, pair{heard(0, 0, l...), want})...)
	}
	for _, n := range []int{4, 5, 16, 17, 256, 259, 65536, 65539} { // also such as are no ranges, or are the same
		for _, r := range ranges(1, 2, 5, 5, -1, -1, 0, 65, math.MaxInt64, math.MinInt64) {
			d := heard(5, 7)
			d.Sacks = slices.Repeat([]api.Range{r}, n)
			isPlay(t, 64, with(head, pair{d, refused(errSize, 64)}, pair{poll, idle(64)}, pair{timeout, left(64)}, pair{poll, anew(sent(0, 64, 64))})...)
		}
	}
}

// holed: deeds behind which all places of 64 were sent, and each second one of n from 2 on is heard of alone.
func holed(n int) []pair {
	p := []pair{{submit(0, 200), left(200)}, {poll, sent(0, 64, 200)}}
	for i := range n {
		p = append(p, pair{heard(0, 0, 2+2*i, 3+2*i), left(200 - i - 1)})
	}
	return p
}

func TestAsManyRangesAsMayBeAndOneMore(t *testing.T) {
	full := holed(holes) // the last one is at 32
	isPlay(t, 64, with(full, pair{heard(0, 0, 34, 35), refused(errFull, 184)}, pair{heard(0, 0, 60, 64), refused(errFull, 184)})...)
	for _, c := range []struct {
		deed api.Deed
		want api.Sent
	}{
		{heard(0, 0, 33, 34), left(183)},                           // touches the last one
		{heard(0, 0, 32, 64), left(153)},                           // goes on from it
		{heard(0, 0, 3, 4), left(183)},                             // joins two
		{heard(0, 0, 0, 1), left(183)},                             // what is heard of first of all
		{heard(1, 0), left(183)},                                   // Ack alone
		{heard(1, 0, 34, 35), refused(errFull, 184)},               // makes no room
		{heard(2, 0, 34, 35), left(181)},                           // makes room: it takes the first one in
		{heard(3, 0, 34, 35), left(181)},                           // so does this
		{heard(2, 0, 34, 35, 40, 41), refused(errFull, 184)},       // but for one
		{heard(4, 0, 34, 35, 40, 41), left(179)},                   // and here for two
		{heard(0, 0, 3, 4, 34, 35), left(182)},                     // the first one makes room for the second
		{heard(0, 0, 34, 35, 3, 4), refused(errFull, 184)},         // but not the second for the first: one by one
		{heard(0, 0, 34, 35, 33, 34), refused(errFull, 184)},       // though it would join it
		{heard(0, 0, 33, 34, 34, 35), left(182)},                   // and so it does
		{heard(0, 0, 3, 6, 40, 41, 50, 51), left(180)},             // room for two
		{heard(0, 0, 3, 4, 40, 41, 50, 51), refused(errFull, 184)}, // for one
		{heard(0, 0, 40, 41, 0, 64), refused(errFull, 184)},        // though all would be heard of
		{heard(0, 0, 0, 64, 40, 41), left(136)},
		{heard(0, 0, 2, 3, 4, 5, 32, 33), left(184)}, // nothing new
		{heard(64, 0, 34, 35), left(136)},
		{heard(0, widest, 34, 35), refused(errFull, 184)},
		{heard(5, widest, 34, 35, 40, 41, 44, 45), refused(errFull, 184)},
	} {
		p := with(full, pair{c.deed, c.want})
		if c.want.Code == errFull { // nothing is heard of then, and the edge stays: just the second places up to 32 are still missing
			p = append(p, pair{poll, idle(184)}, pair{timeout, left(184)}, pair{poll, anew(sent(0, 2, 184))})
			for i := range 15 {
				p = append(p, pair{poll, anew(sent(3+2*i, 1, 184))})
			}
			p = append(p, pair{poll, anew(sent(33, 31, 184))}, pair{poll, idle(184)})
		}
		isPlay(t, 64, p...)
	}
	for n := range holes {
		isPlay(t, 64, with(holed(n), pair{heard(0, 0, 50, 51), left(200 - n - 1)})...)
	}
	isPlay(t, 64, with(holed(holes-1), pair{heard(0, 0, 50, 51, 60, 61), refused(errFull, 185)}, pair{heard(0, 0, 50, 51), left(184)})...)
	isPlay(t, 64, with(holed(holes-2), pair{heard(0, 0, 50, 51, 60, 61), left(184)}, pair{heard(0, 0, 56, 57), refused(errFull, 184)})...)
	isPlay(t, 64, with(holed(holes-3), pair{heard(0, 0, 50, 51, 60, 61, 40, 41), left(184)}, pair{heard(0, 0, 56, 57), refused(errFull, 184)})...)
	isPlay(t, 64, with(holed(holes-2), pair{heard(0, 0, 50, 51, 60, 61, 40, 41), refused(errFull, 186)}, pair{heard(0, 0, 60, 61), left(185)})...)
}

func TestOrderOfWhatIsAgainstAHeard(t *testing.T) {
	full := holed(holes)
	many := heard(0, 0, 34, 35, 36, 37, 38, 39, 40, 41) // too many, and one range too many
	change := func(d api.Deed, ack, window int) api.Deed {
		d.Ack, d.Window = ack, window
		return d
	}
	bad := heard(0, 0, 5, 5, 34, 35, 36, 37, 40, 41)
	for _, c := range []struct {
		deed api.Deed
		code api.Errno
	}{
		{many, errSize}, {change(many, 65, 0), errRange}, {change(many, -1, 0), errRange}, {change(many, 0, -1), errRange}, {change(many, 0, widest+1), errRange},
		{bad, errSize}, {change(bad, 65, 0), errRange}, {change(bad, 0, -1), errRange},
		{heard(0, 0, 34, 35, 5, 5), errRange}, {heard(0, 0, 34, 35, 60, 65), errRange}, {heard(0, 0, -1, 5, 34, 35), errRange}, {heard(0, 0, 34, 35, -1, 5), errRange}, {heard(0, 0, 34, 35, 36, 37, math.MinInt64, 5), errRange}, // ahead of ErrFull
		{heard(65, 0, 34, 35), errRange}, {heard(0, -1, 34, 35), errRange}, {heard(0, widest+1, 34, 35), errRange},
	} {
		isPlay(t, 64, with(full, pair{c.deed, refused(c.code, 184)}, pair{poll, idle(184)})...)
	}
}

func TestHeardWithNumbersBeyondAllBounds(t *testing.T) {
	head := []pair{{submit(0, 64), left(64)}, {poll, sent(0, 40, 64)}, {heard(4, 0), left(60)}}
	for _, a := range far() {
		isPlay(t, 40, with(head, pair{heard(a, 9), refused(errRange, 60)}, pair{heard(5, a), refused(errRange, 60)}, pair{poll, idle(60)})...)
		for _, b := range far() {
			isLong(t, 40, with(head, pair{heard(a, b), refused(errRange, 60)}, pair{heard(a, b, a, b), refused(errRange, 60)}, pair{heard(5, 0, a, b), refused(errRange, 60)},
				pair{heard(b, a, b, a, a, b, a, a, b, b), refused(errRange, 60)}, pair{heard(5, 0, b, a, a, b, a, a, b, b), refused(errSize, 60)}, pair{poll, idle(60)}, pair{heard(4, 37), left(60)}, pair{poll, sent(40, 1, 60)})...)
		}
	}
}

// P7.1: Timeout.

func TestTimeoutWithNothingSent(t *testing.T) {
	isPlay(t, 5, pair{timeout, left(0)}, pair{timeout, left(0)}, pair{submit(0, 9), left(9)}, pair{poll, sent(0, 5, 9)}, pair{poll, idle(9)}) // nothing was submitted: the edge stays
	isPlay(t, 5, pair{submit(0, 9), left(9)}, pair{timeout, left(9)}, pair{poll, sent(0, 5, 9)}, pair{poll, idle(9)})                         // the first place is ahead of the edge
	isPlay(t, 1, pair{submit(0, 9), left(9)}, pair{timeout, left(9)}, pair{poll, sent(0, 1, 9)}, pair{poll, idle(9)})
	isPlay(t, 0, pair{submit(0, 9), left(9)}, pair{timeout, left(9)}, pair{poll, sent(0, 1, 9)}, pair{poll, idle(9)}) // it is not
	isPlay(t, 0, pair{timeout, left(0)}, pair{submit(0, 9), left(9)}, pair{poll, idle(9)})
	isPlay(t, 0, pair{submit(0, 9), left(9)}, pair{timeout, left(9)}, pair{timeout, left(9)}, pair{timeout, left(9)}, pair{poll, sent(0, 1, 9)}, pair{poll, idle(9)}) // one more, however often
}

func TestTimeoutWithTheEdgeShut(t *testing.T) {
	isPlay(t, 3,
		pair{submit(0, 6), left(6)}, pair{poll, sent(0, 3, 6)}, pair{poll, idle(6)},
		pair{timeout, left(6)}, // some were sent, and are not heard of: the edge stays
		pair{poll, anew(sent(0, 3, 6))}, pair{poll, idle(6)},
		pair{heard(2, 1), left(4)}, pair{timeout, left(4)}, pair{poll, anew(sent(2, 1, 4))}, pair{poll, idle(4)},
		pair{heard(3, 0), left(3)}, pair{poll, idle(3)}, // shut
		pair{timeout, left(3)}, pair{poll, sent(3, 1, 3)}, pair{poll, idle(3)},
		pair{timeout, left(3)}, pair{poll, anew(sent(3, 1, 3))}, pair{poll, idle(3)},
		pair{heard(4, 0), left(2)}, pair{timeout, left(2)}, pair{timeout, left(2)}, pair{poll, sent(4, 1, 2)}, pair{poll, idle(2)},
		pair{heard(4, 2), left(2)}, pair{poll, sent(5, 1, 2)}, // the window opens
		pair{heard(6, 0), left(0)}, pair{timeout, left(0)}, // nothing is there that was never sent
		pair{submit(6, 2), left(2)}, pair{poll, idle(2)}, // so the edge stayed
		pair{timeout, left(2)}, pair{poll, sent(6, 1, 2)}, pair{poll, idle(2)},
		pair{heard(7, 0), left(1)}, pair{end, left(2)}, pair{timeout, left(2)}, pair{poll, sent(7, 1, 2)}, pair{poll, idle(2)},
		pair{heard(8, 0), left(1)}, pair{poll, idle(1)}, pair{timeout, left(1)}, pair{poll, last(8, 0, 1)}, pair{poll, idle(1)}, // the end alone
		pair{timeout, left(1)}, pair{poll, anew(last(8, 0, 1))}, pair{heard(9, 0), left(0)}, pair{timeout, left(0)}, pair{poll, idle(0)},
	)
}

func TestTimeoutWithTheEdgeOpen(t *testing.T) {
	isPlay(t, 70,
		pair{submit(0, 100), left(100)}, pair{poll, sent(0, 64, 100)}, pair{heard(64, 0), left(36)},
		pair{timeout, left(36)}, // all is heard of, and 64 is ahead of the edge: it stays
		pair{poll, sent(64, 6, 36)}, pair{poll, idle(36)},
		pair{heard(70, 0), left(30)}, pair{timeout, left(30)}, pair{poll, sent(70, 1, 30)}, pair{poll, idle(30)},
		pair{heard(71, 9), left(29)}, pair{timeout, left(29)}, pair{poll, sent(71, 9, 29)}, pair{poll, idle(29)},
	)
}

func TestTimeoutWithAllHeardOf(t *testing.T) {
	isPlay(t, 90,
		pair{submit(0, 20), left(20)}, pair{poll, sent(0, 20, 20)}, pair{heard(20, 0), left(0)}, pair{timeout, left(0)}, pair{poll, idle(0)},
		pair{end, left(1)}, pair{timeout, left(1)}, pair{poll, last(20, 0, 1)}, pair{heard(0, 0, 20, 21), left(0)}, pair{timeout, left(0)}, pair{poll, idle(0)},
	)
}

func TestTimeoutTwiceBehindEachOther(t *testing.T) {
	isPlay(t, 150,
		pair{submit(0, 150), left(150)}, pair{poll, sent(0, 64, 150)}, pair{poll, sent(64, 64, 150)}, pair{poll, sent(128, 22, 150)},
		pair{timeout, left(150)}, pair{timeout, left(150)},
		pair{poll, anew(sent(0, 64, 150))}, pair{poll, anew(sent(64, 64, 150))},
		pair{timeout, left(150)}, // from the first one on, also what was sent again already
		pair{poll, anew(sent(0, 64, 150))}, pair{poll, anew(sent(64, 64, 150))}, pair{poll, anew(sent(128, 22, 150))}, pair{poll, idle(150)},
		pair{timeout, left(150)}, pair{poll, anew(sent(0, 64, 150))},
		pair{heard(100, 0), left(50)}, pair{poll, anew(sent(100, 50, 50))}, pair{poll, idle(50)},
		pair{timeout, left(50)}, pair{timeout, left(50)}, pair{poll, anew(sent(100, 50, 50))}, pair{poll, idle(50)},
	)
}

func TestOnlyWhatWasSentIsSentAgain(t *testing.T) {
	isPlay(t, 300,
		pair{submit(0, 130), left(130)}, pair{poll, sent(0, 64, 130)},
		pair{timeout, left(130)},
		pair{poll, anew(sent(0, 64, 130))}, // then what was never sent
		pair{poll, sent(64, 64, 130)}, pair{poll, sent(128, 2, 130)}, pair{poll, idle(130)},
		pair{timeout, left(130)},
		pair{submit(130, 20), left(150)},
		pair{poll, anew(sent(0, 64, 150))}, pair{poll, anew(sent(64, 64, 150))},
		pair{poll, anew(sent(128, 2, 150))}, // it ends with what was sent
		pair{poll, sent(130, 20, 150)}, pair{poll, idle(150)},
		pair{end, left(151)}, pair{timeout, left(151)},
		pair{poll, anew(sent(0, 64, 151))}, pair{poll, anew(sent(64, 64, 151))},
		pair{poll, anew(sent(128, 22, 151))}, // the end was never sent
		pair{poll, last(150, 0, 151)}, pair{poll, idle(151)},
	)
}

// P7.1: Poll.

func TestPollWithAsManyAsGoAtOnceAndOneMore(t *testing.T) {
	isPlay(t, widest, pair{submit(0, 63), left(63)}, pair{poll, sent(0, 63, 63)}, pair{poll, idle(63)})
	isPlay(t, widest, pair{submit(0, 64), left(64)}, pair{poll, sent(0, 64, 64)}, pair{poll, idle(64)})
	isPlay(t, widest, pair{submit(0, 65), left(65)}, pair{poll, sent(0, 64, 65)}, pair{poll, sent(64, 1, 65)}, pair{poll, idle(65)})
	isPlay(t, widest, pair{submit(0, 65), left(65)}, pair{poll, sent(0, 64, 65)}, pair{timeout, left(65)}, pair{poll, anew(sent(0, 64, 65))}, pair{poll, sent(64, 1, 65)}, pair{timeout, left(65)},
		pair{poll, anew(sent(0, 64, 65))}, pair{poll, anew(sent(64, 1, 65))}, pair{poll, idle(65)})
}

func TestPollOfTheEnd(t *testing.T) {
	for n := range 3*packet + 2 {
		all := n + 1
		p := []pair{{submit(0, n), left(n)}, {end, left(all)}}
		var first []pair
		from := 0
		for ; n-from > packet; from += packet {
			first = append(first, pair{poll, sent(from, packet, all)})
		}
		first = append(first, pair{poll, last(from, n-from, all)}) // behind MaxData bytes, too, and alone where there are none
		p = append(append(p, first...), pair{poll, idle(all)}, pair{timeout, left(all)})
		for _, x := range first {
			p = append(p, pair{x.deed, anew(x.want)})
		}
		p = append(p, pair{poll, idle(all)}, pair{heard(n, 0), left(1)}, pair{timeout, left(1)}, pair{poll, anew(last(n, 0, 1))}, pair{poll, idle(1)}, pair{heard(all, 0), left(0)}, pair{poll, idle(0)})
		isLong(t, widest, p...)
	}
}

func TestPollOfTheEndBehindManyBytes(t *testing.T) {
	isPlay(t, widest, pair{submit(0, 64), left(64)}, pair{end, left(65)}, pair{poll, last(0, 64, 65)}, pair{poll, idle(65)}, pair{timeout, left(65)}, pair{poll, anew(last(0, 64, 65))}, pair{poll, idle(65)}, pair{heard(65, 0), left(0)})
	isPlay(t, widest, pair{submit(0, 64), left(64)}, pair{poll, sent(0, 64, 64)}, pair{end, left(65)}, pair{timeout, left(65)}, pair{poll, anew(sent(0, 64, 65))}, pair{poll, last(64, 0, 65)}, pair{timeout, left(65)}, pair{poll, anew(last(0, 64, 65))}, pair{poll, idle(65)})
	isPlay(t, widest, pair{submit(0, 65), left(65)}, pair{end, left(66)}, pair{poll, sent(0, 64, 66)}, pair{poll, last(64, 1, 66)}, pair{heard(2, 0), left(64)}, pair{timeout, left(64)}, pair{poll, anew(last(2, 63, 64))}, pair{poll, idle(64)})
	isPlay(t, widest, pair{submit(0, 65), left(65)}, pair{end, left(66)}, pair{poll, sent(0, 64, 66)}, pair{poll, last(64, 1, 66)}, pair{heard(1, 0), left(65)}, pair{timeout, left(65)}, pair{poll, anew(last(1, 64, 65))}, pair{poll, idle(65)})
}

func TestPollOfTheEndAtTheEdge(t *testing.T) {
	for edge := range 14 {
		p := []pair{{submit(0, 10), left(10)}, {end, left(11)}}
		switch {
		case edge > 10: // the end is ahead of it, too
			p = append(p, pair{poll, last(0, 10, 11)})
		case edge > 0:
			p = append(p, pair{poll, sent(0, edge, 11)})
		}
		p = append(p, pair{poll, idle(11)})
		if edge <= 10 {
			p = append(p, pair{heard(0, 11), left(11)}, pair{poll, last(edge, 10-edge, 11)}, pair{poll, idle(11)})
		}
		isPlay(t, edge, p...)
	}
	for edge := 62; edge < 68; edge++ { // about MaxData bytes
		p := []pair{{submit(0, 64), left(64)}, {end, left(65)}}
		if edge > 64 {
			p = append(p, pair{poll, last(0, 64, 65)})
		} else {
			p = append(p, pair{poll, sent(0, edge, 65)}, pair{poll, idle(65)}, pair{heard(0, 65), left(65)}, pair{poll, last(edge, 64-edge, 65)})
		}
		isPlay(t, edge, append(p, pair{poll, idle(65)})...)
	}
}

func TestTheEndIsHeardOfAlone(t *testing.T) {
	isPlay(t, 99,
		pair{submit(0, 10), left(10)}, pair{end, left(11)}, pair{poll, last(0, 10, 11)},
		pair{heard(0, 0, 10, 11), left(10)}, pair{timeout, left(10)}, pair{poll, anew(sent(0, 10, 10))}, pair{poll, idle(10)}, // without Fin
		pair{heard(0, 0, 8, 9), left(9)}, pair{timeout, left(9)}, pair{poll, anew(sent(0, 8, 9))}, pair{poll, anew(sent(9, 1, 9))}, pair{poll, idle(9)},
	)
	isPlay(t, 99,
		pair{submit(0, 10), left(10)}, pair{end, left(11)}, pair{poll, last(0, 10, 11)},
		pair{heard(0, 0, 9, 10), left(10)}, pair{timeout, left(10)}, pair{poll, anew(sent(0, 9, 10))}, pair{poll, anew(last(10, 0, 10))}, pair{poll, idle(10)}, // with nothing but Fin
	)
}

func TestPollAtTheEdge(t *testing.T) {
	isPlay(t, 64, pair{submit(0, 200), left(200)}, pair{poll, sent(0, 64, 200)}, pair{poll, idle(200)}, pair{heard(0, 65), left(200)}, pair{poll, sent(64, 1, 200)}, pair{poll, idle(200)}, pair{heard(65, 63), left(135)}, pair{poll, sent(65, 63, 135)}, pair{poll, idle(135)}, pair{heard(128, 65), left(72)}, pair{poll, sent(128, 64, 72)}, pair{poll, sent(192, 1, 72)}, pair{poll, idle(72)})
}

func TestPollOfWhatIsToBeSentAgainWhereSomeIsHeardOfSince(t *testing.T) {
	head := []pair{{submit(0, 200), left(200)}, {poll, sent(0, 64, 200)}, {poll, sent(64, 64, 200)}, {timeout, left(200)}}
	isPlay(t, 128, with(head,
		pair{heard(0, 0, 10, 20), left(190)},
		pair{poll, anew(sent(0, 10, 190))}, // up to what is heard of
		pair{heard(0, 0, 20, 40), left(170)},
		pair{poll, anew(sent(40, 64, 170))}, // from behind it on
		pair{heard(0, 0, 5, 8), left(167)},
		pair{poll, anew(sent(104, 24, 167))}, // what is ahead of these is not sent again
		pair{poll, idle(167)},
		pair{timeout, left(167)},
		pair{poll, anew(sent(0, 5, 167))}, pair{poll, anew(sent(8, 2, 167))},
		pair{heard(50, 0), left(150)}, // beyond these
		pair{poll, anew(sent(50, 64, 150))},
		pair{heard(128, 72), left(72)}, // all of what is to be sent again
		pair{poll, sent(128, 64, 72)}, pair{poll, sent(192, 8, 72)}, pair{poll, idle(72)},
	)...)
	isPlay(t, 128, with(head, pair{heard(128, 0), left(72)}, pair{poll, idle(72)})...)
	isPlay(t, 128, with(head, pair{heard(127, 9), left(73)}, pair{poll, anew(sent(127, 1, 73))}, pair{poll, sent(128, 8, 73)}, pair{poll, idle(73)})...)
	isPlay(t, 128, with(head, pair{heard(0, 0, 1, 128), left(73)}, pair{poll, anew(sent(0, 1, 73))}, pair{poll, idle(73)})...)
	isPlay(t, 128, with(head, pair{heard(0, 0, 64, 128), left(136)}, pair{poll, anew(sent(0, 64, 136))}, pair{poll, idle(136)})...)
	isPlay(t, 128, with(head, pair{heard(0, 0, 65, 127), left(138)}, pair{poll, anew(sent(0, 64, 138))}, pair{poll, anew(sent(64, 1, 138))}, pair{poll, anew(sent(127, 1, 138))}, pair{poll, idle(138)})...)
	isPlay(t, 128, with(head, pair{heard(0, 0, 2, 3, 5, 7, 8, 128), left(77)}, pair{poll, anew(sent(0, 2, 77))}, pair{poll, anew(sent(3, 2, 77))}, pair{poll, anew(sent(7, 1, 77))}, pair{poll, idle(77)})...)
	isPlay(t, 128, with(head, pair{poll, anew(sent(0, 64, 200))}, pair{heard(0, 0, 70, 80, 60, 64), left(186)}, pair{poll, anew(sent(64, 6, 186))}, pair{poll, anew(sent(80, 48, 186))}, pair{poll, idle(186)})...)
}

func TestWhatIsToBeSentAgainGoesFirst(t *testing.T) {
	isPlay(t, 10,
		pair{submit(0, 50), left(50)}, pair{poll, sent(0, 10, 50)}, pair{timeout, left(50)}, pair{heard(4, 30, 6, 8), left(44)},
		pair{poll, anew(sent(4, 2, 44))}, pair{poll, anew(sent(8, 2, 44))}, // though the edge is 34
		pair{poll, sent(10, 24, 44)}, pair{poll, idle(44)},
		pair{timeout, left(44)}, pair{poll, anew(sent(4, 2, 44))}, pair{poll, anew(sent(8, 26, 44))}, pair{poll, idle(44)},
	)
}

func TestNothingIsSentAgainWithoutTimeout(t *testing.T) {
	isPlay(t, 64,
		pair{submit(0, 100), left(100)}, pair{poll, sent(0, 64, 100)}, pair{heard(0, 0, 20, 64), left(56)}, pair{poll, idle(56)}, pair{heard(0, 100), left(56)},
		pair{poll, sent(64, 36, 56)}, pair{poll, idle(56)},
	)
}

// P7.1: wrong kinds, and Left.

func TestNoSuchKind(t *testing.T) {
	for kind := -300; kind <= 600; kind++ {
		if kind < 1 || kind > 5 {
			isList(t, 9, []api.Deed{{Kind: kind}}, []api.Sent{refused(errKind, 0)})
		}
	}
	for _, kind := range noKinds() {
		d := api.Deed{Kind: kind, Data: text(0, 9), Ack: 3, Window: 5, Sacks: ranges(1, 2)}
		bad := func(left int) pair { return pair{d, refused(errKind, left)} }
		isLong(t, 9, bad(0), pair{submit(0, 20), left(20)}, bad(20), pair{poll, sent(0, 9, 20)}, bad(20), pair{heard(2, 0, 4, 5), left(17)}, bad(17),
			pair{timeout, left(17)}, bad(17), pair{poll, anew(sent(2, 2, 17))}, bad(17), pair{end, left(18)}, bad(18), pair{poll, anew(sent(5, 4, 18))}, bad(18), pair{poll, idle(18)}, bad(18))
	}
}

// refusals: deeds that are refused after 40 bytes were submitted, 30 sent, and 10 to 12 and 15 to 17 heard of, with a word of why.
func refusals(closed bool) []pair {
	left := 36
	if closed {
		left++
	}
	no := func(d api.Deed, code api.Errno) pair { return pair{d, refused(code, left)} }
	l := []pair{
		no(api.Deed{}, errKind), no(api.Deed{Kind: 6}, errKind), no(api.Deed{Kind: -3, Ack: 5, Data: text(0, 3)}, errKind),
		no(heard(31, 0), errRange), no(heard(-1, 0), errRange), no(heard(3, -1), errRange), no(heard(3, widest+1), errRange),
		no(heard(3, 9, 4, 5, 6, 7, 8, 9, 20, 21), errSize), no(heard(3, 90, 4, 4), errRange), no(heard(3, 90, 20, 31), errRange), no(heard(3, 90, -1, 4), errRange),
	}
	if closed {
		return append(l, no(end, errState), no(submit(40, 3), errState), no(submit(40, body+1), errState))
	}
	return append(l, no(submit(40, body+1), errSize))
}

// TestWhatIsRefusedDoesNothingElse: as the first one, in the midst, and as the last one.
func TestWhatIsRefusedDoesNothingElse(t *testing.T) {
	head := []pair{{submit(0, 40), left(40)}, {poll, sent(0, 30, 40)}, {heard(0, 0, 10, 12, 15, 17), left(36)}}
	tail := []pair{{poll, idle(36)}, {timeout, left(36)}, {poll, anew(sent(0, 10, 36))}, {submit(40, 1), left(37)}, {end, left(38)}, {poll, anew(sent(12, 3, 38))}, {poll, anew(sent(17, 13, 38))}, {poll, idle(38)}, {heard(0, 42), left(38)}, {poll, last(30, 11, 38)}}
	for _, p := range refusals(false) {
		isPlay(t, 30, with(with(head, p, p), tail...)...)
	}
	isPlay(t, 30, with(with(head, refusals(false)...), tail...)...)
	head = append(head, pair{end, left(37)})
	tail = []pair{{poll, idle(37)}, {timeout, left(37)}, {poll, anew(sent(0, 10, 37))}, {poll, anew(sent(12, 3, 37))}, {poll, anew(sent(17, 13, 37))}, {poll, idle(37)}, {heard(0, 41), left(37)}, {poll, last(30, 10, 37)}}
	for _, p := range refusals(true) {
		isPlay(t, 30, with(with(head, p, p), tail...)...)
	}
	isPlay(t, 30, with(with(head, refusals(true)...), tail...)...)
}

func TestWhatIsRefusedAsTheFirstOne(t *testing.T) {
	for _, c := range []struct {
		deed api.Deed
		code api.Errno
	}{
		{submit(0, body+1), errSize}, {heard(1, 0), errRange}, {heard(-1, 0), errRange}, {heard(0, -1), errRange}, {heard(0, widest+1), errRange}, {heard(0, 7, 0, 0), errRange}, {heard(0, 7, 0, 1), errRange},
		{heard(0, 7, 0, 1, 0, 1, 0, 1, 0, 1), errSize}, {heard(1, 7, 0, 1, 0, 1, 0, 1, 0, 1), errRange}, {heard(0, -1, 0, 1, 0, 1, 0, 1, 0, 1), errRange}, {api.Deed{}, errKind}, {api.Deed{Kind: 6}, errKind},
	} {
		isPlay(t, 2, pair{c.deed, refused(c.code, 0)}, pair{submit(0, 5), left(5)}, pair{poll, sent(0, 2, 5)}, pair{poll, idle(5)}, pair{heard(1, 2), left(4)}, pair{poll, sent(2, 1, 4)})
	}
}

// The model: what is known of each place alone. It knows no ranges: they are counted out of it.
type model struct {
	text   []byte
	closed bool
	edge   int
	sent   []place
}

type place struct{ heard, again bool }

func (m *model) places() int {
	if m.closed {
		return len(m.text) + 1
	}
	return len(m.text)
}

func (m *model) left() int {
	n := m.places()
	for _, p := range m.sent {
		if p.heard {
			n--
		}
	}
	return n
}

func (m *model) act(d api.Deed) api.Sent {
	x := api.Sent{}
	switch d.Kind {
	case kindSubmit:
		if m.closed {
			x.Code = errState
		} else if len(d.Data) > body {
			x.Code = errSize
		} else if len(m.text)+len(d.Data) >= most {
			x.Code = errFull
		} else {
			m.text = append(m.text, d.Data...)
		}
	case kindClose:
		if m.closed {
			x.Code = errState
		}
		m.closed = true
	case kindHeard:
		x.Code = m.hear(d)
	case kindTimeout:
		m.timeout()
	case kindPoll:
		x = m.poll()
	default:
		x.Code = errKind
	}
	x.Left = m.left()
	return x
}

func (m *model) hear(d api.Deed) api.Errno {
	if d.Ack < 0 || d.Ack > len(m.sent) || d.Window < 0 || d.Window > widest {
		return errRange
	}
	if len(d.Sacks) > blocks {
		return errSize
	}
	for _, r := range d.Sacks {
		if r.From < 0 || r.To <= r.From || r.To > len(m.sent) {
			return errRange
		}
	}
	next := slices.Clone(m.sent)
	for _, r := range slices.Insert(slices.Clone(d.Sacks), 0, api.Range{From: 0, To: d.Ack}) {
		for i := r.From; i < r.To; i++ {
			next[i].heard = true
		}
		if runs(next) > holes {
			return errFull
		}
	}
	m.sent = next
	if d.Ack+d.Window > m.edge {
		m.edge = d.Ack + d.Window
	}
	return ok
}

// runs: how many ranges are heard of beyond the first place that is not.
func runs(l []place) int {
	n, gap, before := 0, false, true
	for _, p := range l {
		gap = gap || !p.heard
		if gap && p.heard && !before {
			n++
		}
		before = p.heard
	}
	return n
}

func (m *model) timeout() {
	some := false
	for i := range m.sent {
		m.sent[i].again = !m.sent[i].heard
		some = some || m.sent[i].again
	}
	if first := len(m.sent); !some && first < m.places() && first >= m.edge {
		m.edge = first + 1
	}
}

func (m *model) poll() api.Sent {
	for i, p := range m.sent {
		if p.again && !p.heard {
			return m.fill(i, func(at int) bool { return at < len(m.sent) && !m.sent[at].heard }, true)
		}
	}
	from := len(m.sent)
	x := m.fill(from, func(at int) bool { return at < m.places() && at < m.edge }, false)
	if len(x.Data) == 0 && !x.Fin {
		return api.Sent{Idle: true}
	}
	return x
}

// fill: place by place, as long as these go, and there is room.
func (m *model) fill(from int, goes func(at int) bool, again bool) api.Sent {
	x := api.Sent{From: from, Again: again}
	at := from
	for ; goes(at) && !x.Fin; at++ {
		if at == len(m.text) {
			x.Fin = true
		} else if len(x.Data) < packet {
			x.Data = append(x.Data, m.text[at])
		} else {
			break
		}
	}
	for len(m.sent) < at {
		m.sent = append(m.sent, place{})
	}
	for i := range at {
		m.sent[i].again = false
	}
	return x
}

// isModel: these deeds come to what the model says.
func isModel(t *testing.T, window int, l []api.Deed) {
	t.Helper()
	m := model{edge: window}
	var want []api.Sent
	for _, d := range l {
		want = append(want, m.act(d))
	}
	isList(t, window, l, want)
}

func TestAllShortLists(t *testing.T) {
	alphabet := []func(m *model) api.Deed{
		func(m *model) api.Deed { return submit(len(m.text), 2) },
		func(m *model) api.Deed { return submit(len(m.text), 65) },
		func(m *model) api.Deed { return end },
		func(m *model) api.Deed { return poll },
		func(m *model) api.Deed { return timeout },
		func(m *model) api.Deed { return heard(1, 2) },
		func(m *model) api.Deed { return heard(0, 70, 1, 2) },
		func(m *model) api.Deed { return heard(len(m.sent), 1) },
		func(m *model) api.Deed { return heard(0, 0, len(m.sent)/2, len(m.sent)) },
	}
	for _, window := range []int{0, 3, 66} {
		var walk func(m model, l []api.Deed, want []api.Sent)
		walk = func(m model, l []api.Deed, want []api.Sent) {
			if len(l) == 6 {
				isList(t, window, l, want)
				return
			}
			for _, f := range alphabet {
				d := f(&m)
				next := m
				next.text, next.sent = slices.Clone(m.text), slices.Clone(m.sent)
				x := next.act(d)
				walk(next, append(l[:len(l):len(l)], d), append(want[:len(want):len(want)], x))
			}
		}
		walk(model{edge: window}, nil, nil)
	}
}

// dice: numbers that look as if by chance, the same ones each time.
func dice(seed uint32) func(n int) int {
	return func(n int) int {
		seed = seed*1664525 + 1013904223
		return int(seed>>8) % n
	}
}

// chanceDeed: a deed that mostly may be, after what the model knows.
func chanceDeed(m *model, chance func(n int) int, closes bool) api.Deed {
	within := func() int { return chance(len(m.sent) + 1) }
	switch k := chance(40); {
	case k < 6:
		return submit(len(m.text), chance(150))
	case k < 22:
		return poll
	case k < 25:
		return timeout
	case k == 25 && closes:
		return end
	case k == 26:
		return litter(api.Deed{Kind: []int{-1, 0, 6, kindPoll, kindTimeout}[chance(5)]}, chance(40))
	case k == 27: // mostly refused
		return heard(within()+chance(9)-4, chance(200)-20, within(), within(), within(), within())
	default:
		d := heard(0, chance(120))
		if chance(3) == 0 { // from what is heard of on, and not only back
			d.Ack = within()
		}
		for range chance(4) {
			from := within()
			d.Sacks = append(d.Sacks, api.Range{From: from, To: min(from+1+chance(6)*chance(6), len(m.sent))})
		}
		d.Sacks = slices.DeleteFunc(d.Sacks, func(r api.Range) bool { return r.From >= r.To })
		return d
	}
}

// mixed: as many deeds as may be, and what the model says of them.
func mixed(window int, chance func(n int) int, closes bool) ([]api.Deed, []api.Sent) {
	m := model{edge: window}
	var l []api.Deed
	var want []api.Sent
	for range events {
		d := chanceDeed(&m, chance, closes)
		l, want = append(l, d), append(want, m.act(d))
	}
	return l, want
}

func TestLongLists(t *testing.T) {
	codes := map[api.Errno]int{}
	for n := range 1500 {
		chance := dice(uint32(n))
		window := []int{0, 1, 64, 100, 1000, widest}[n%6]
		l, want := mixed(window, chance, n%3 != 0)
		isList(t, window, l, want)
		for _, x := range want {
			codes[x.Code]++
		}
	}
	for _, code := range []api.Errno{ok, errRange, errKind, errFull, errState} {
		if codes[code] == 0 {
			t.Errorf("none came to %d", code)
		}
	}
}

// TestAllComesThroughALineThatLoses: what is sent, as far as it comes, is the stream, and in the end nothing is left.
func TestAllComesThroughALineThatLoses(t *testing.T) {
	for n := range 30 {
		chance := dice(uint32(n))
		l := []api.Deed{submit(0, 300), submit(300, 200), end}
		came := make([]bool, 501)
		done := false
		for len(l) < events && !done {
			l = append(l, poll)
			got, _ := send.Play(150, l)
			x := got[len(got)-1]
			if x.Idle {
				l = append(l, timeout)
			} else if chance(4) > 0 {
				arrive(t, came, x)
				l = append(l, answer(came))
			}
			got, _ = send.Play(150, l)
			done = got[len(got)-1].Left == 0
		}
		if !done || slices.Contains(came, false) {
			t.Fatalf("%d: not all came", n)
		}
	}
}

// arrive: at these places; the last one is that of the end.
func arrive(t *testing.T, came []bool, x api.Sent) {
	t.Helper()
	if to := x.From + len(x.Data); !bytes.Equal(x.Data, text(x.From, len(x.Data))) || x.Fin != (to == len(came)-1) {
		t.Fatalf("%s", show(x))
	}
	for i := range x.Data {
		came[x.From+i] = true
	}
	if x.Fin {
		came[len(came)-1] = true
	}
}

// answer: what who hears tells: the first place that did not come, and the first three ranges beyond it.
func answer(came []bool) api.Deed {
	d := heard(len(came), 150)
	if i := slices.Index(came, false); i >= 0 {
		d.Ack = i
	}
	for i := d.Ack; i < len(came); i++ {
		switch {
		case !came[i]:
		case !came[i-1] && len(d.Sacks) == blocks:
			return d
		case !came[i-1]:
			d.Sacks = append(d.Sacks, api.Range{From: i, To: i + 1})
		default:
			d.Sacks[len(d.Sacks)-1].To++
		}
	}
	return d
}

// What holds everywhere.

// lists: deeds of all kinds, some of which are refused.
func lists() [][]api.Deed {
	out := [][]api.Deed{nil, {}, {poll}, {submit(0, 100), poll, poll, timeout, poll, poll, end, poll, timeout, poll}, {heard(0, 0, 1, 2), {}, submit(0, body+1)}, slices.Repeat([]api.Deed{submit(0, 3)}, events+1)}
	for n := range 30 {
		l, _ := mixed(200, dice(uint32(n+7)), true)
		out = append(out, l)
	}
	return out
}

// roomy: the same deeds, with spare room behind the list, and behind each list in it.
func roomy(l []api.Deed) []api.Deed {
	out := make([]api.Deed, 0, len(l)+5)
	for _, d := range l {
		d.Data = append(slices.Clone(d.Data), text(99, 200)...)[:len(d.Data)]
		d.Sacks = append(slices.Clone(d.Sacks), ranges(71, 72, 73, 74, 75, 76, 77, 78)...)[:len(d.Sacks)]
		out = append(out, d)
	}
	copy(out[len(out):cap(out)], []api.Deed{{Kind: 77, Ack: 78}, {Kind: 79, Window: 80}, {Data: text(1, 3)}})
	return out
}

// whole: all that stands in deeds, in spare room, too.
func whole(l []api.Deed) string {
	var s []byte
	for _, d := range l[:cap(l)] {
		s = fmt.Appendln(s, d.Kind, d.Data[:cap(d.Data)], d.Ack, d.Window, d.Sacks[:cap(d.Sacks)], len(d.Data), len(d.Sacks))
	}
	return string(s)
}

// answers: what these deeds come to, as one text.
func answers(window int, l []api.Deed) string {
	got, code := send.Play(window, l)
	s := fmt.Appendln(nil, code)
	for _, x := range got {
		s = append(s, show(x)...)
	}
	return string(s)
}

func TestWhatIsHandedInIsNotChanged(t *testing.T) {
	for _, l := range lists() {
		l = roomy(l)
		before := whole(l)
		send.Play(200, l)
		if whole(l) != before {
			t.Fatalf("%q: changed", sketches(l))
		}
	}
}

// scribble: over all that is told, in spare room, too.
func scribble(got []api.Sent) {
	for _, x := range got {
		for i := range x.Data[:cap(x.Data)] {
			x.Data[:cap(x.Data)][i] ^= 0xff
		}
	}
	for i := range got[:cap(got)] {
		got[:cap(got)][i] = api.Sent{Code: 99, Left: 98, From: 97}
	}
}

func TestWhatComesOutIsNewMemory(t *testing.T) {
	for _, l := range lists() {
		l = roomy(l)
		before := whole(l)
		want := answers(200, l)
		one, _ := send.Play(200, l)
		two, code := send.Play(200, l)
		scribble(one)
		s := string(fmt.Appendln(nil, code))
		for _, x := range two {
			s += show(x)
		}
		if s != want || answers(200, l) != want || whole(l) != before {
			t.Fatalf("%q: an answer shares memory with another one, or with what was handed in", sketches(l))
		}
	}
}

func TestNoTwoListsOfOneAnswerShareMemory(t *testing.T) {
	for _, l := range lists() {
		got, _ := send.Play(200, l)
		for i := range got {
			before := make([][]byte, len(got))
			for j := range got {
				before[j] = slices.Clone(got[j].Data)
			}
			room := got[i].Data[:cap(got[i].Data)]
			for k := range room {
				room[k] ^= 0xff
			}
			for j := range got {
				if j != i && !bytes.Equal(before[j], got[j].Data) {
					t.Fatalf("%q: Data of %d and %d share memory", sketches(l), i, j)
				}
			}
		}
	}
}

func TestWhatIsHandedInIsNotKept(t *testing.T) {
	for _, l := range lists() {
		l = roomy(l)
		want := answers(200, l)
		got, code := send.Play(200, l)
		for i := range l {
			for k := range l[i].Data[:cap(l[i].Data)] {
				l[i].Data[:cap(l[i].Data)][k] ^= 0xff
			}
			for k := range l[i].Sacks[:cap(l[i].Sacks)] {
				l[i].Sacks[:cap(l[i].Sacks)][k] = api.Range{From: -1, To: -1}
			}
			l[i] = api.Deed{}
		}
		s := string(fmt.Appendln(nil, code))
		for _, x := range got {
			s += show(x)
		}
		if s != want {
			t.Fatal("an answer changed with what was handed in")
		}
	}
}

func TestAnswersHangOnArgumentsAlone(t *testing.T) {
	all := lists()
	var want []string
	for _, l := range all {
		want = append(want, answers(200, l))
	}
	for i, l := range slices.Backward(all) {
		if answers(200, l) != want[i] {
			t.Fatalf("%q: asked again, another answer", sketches(l))
		}
	}
	var hands sync.WaitGroup
	for range 4 {
		hands.Go(func() {
			for i, l := range all {
				if answers(200, l) != want[i] {
					t.Error("asked at the same time, another answer")
				}
			}
		})
	}
	hands.Wait()
}
