package wire

import (
	"bytes"
	"fmt"
	"testing"

	"packthread/api"
	"packthread/inet"
)

// These tests look at the bytes of frames, and put frames that neither end would put: pipe's own tests, which only see what hops come to, can do neither.

// start: a line on which these hops went well.
func start(t *testing.T, first, room int, l ...api.Hop) *Wire {
	t.Helper()
	w, code := New(api.Line{First: first, Room: room})
	if code != api.OK {
		t.Fatalf("New(%d, %d): %d", first, room, code)
	}
	for _, h := range l {
		if x := w.Pass(h); x.Code != api.OK {
			t.Fatalf("%+v: %+v", h, x)
		}
	}
	return &w
}

func give(s string) api.Hop { return api.Hop{Kind: api.Give, Data: []byte(s)} }

var (
	shut   = api.Hop{Kind: api.Shut}
	send   = api.Hop{Kind: api.Send}
	expire = api.Hop{Kind: api.Expire}
)

func carry(id int) api.Hop { return api.Hop{Kind: api.Carry, Id: id} }

func back(id int) api.Hop { return api.Hop{Kind: api.Return, Id: id} }

func drain(n int) api.Hop { return api.Hop{Kind: api.Drain, Count: n} }

// is: what one more hop comes to.
func is(t *testing.T, w *Wire, h api.Hop, want api.Passed) {
	t.Helper()
	if got := w.Pass(h); fmt.Sprint(got) != fmt.Sprint(want) {
		t.Fatalf("%+v: %+v, want %+v", h, got, want)
	}
}

// isFrame: the bytes of a frame.
func isFrame(t *testing.T, w *Wire, id int, want ...byte) {
	t.Helper()
	if got := w.frames[id].bytes; !bytes.Equal(got, want) {
		t.Errorf("frame %d: % x, want % x", id, got, want)
	}
}

// P9.1: the bytes of frames, and the serials in them.

func TestFramesOfSend(t *testing.T) {
	w := start(t, 65534, 50, give("hello"), send, shut, send, expire, send)
	isFrame(t, w, 0, 0xff, 0xfe, 0, 0, 0, 0, 0, 0, 0xbc, 0x2e, 'h', 'e', 'l', 'l', 'o')
	isFrame(t, w, 1, 0, 3, 0, 0, 0, 0, 2, 0, 0xfd, 0xfc) // the end stands at place 5: 65534 and 5 comes round to 3
	isFrame(t, w, 2, 0xff, 0xfe, 0, 0, 0, 0, 2, 0, 0xba, 0x2e, 'h', 'e', 'l', 'l', 'o')
	isFrame(t, start(t, 0, 50, shut, send), 0, 0, 0, 0, 0, 0, 0, 2, 0, 0xfd, 0xff)
	isFrame(t, start(t, 0x1234, 50, give("a"), send, give("bc"), send), 1, 0x12, 0x35, 0, 0, 0, 0, 0, 0, 0x8b, 0x67, 'b', 'c')
}

func TestFramesOfCarryAndDrain(t *testing.T) {
	w := start(t, 65534, 50, give("hello"), send, carry(0), drain(3), shut, send, carry(3))
	isFrame(t, w, 1, 0, 0, 0, 3, 0, 45, 8, 0, 0xf7, 0xcf)
	isFrame(t, w, 2, 0, 0, 0, 3, 0, 48, 8, 0, 0xf7, 0xcc)
	isFrame(t, w, 4, 0, 0, 0, 4, 0, 48, 8, 0, 0xf7, 0xcb) // Ack tells of the end, too
	w = start(t, 65535, 50, give("a"), send, give("bc"), send, carry(1), drain(9))
	isFrame(t, w, 2, 0, 0, 0xff, 0xff, 0, 50, 8, 1, 0xf7, 0xca, 0, 0, 0, 2)
	isFrame(t, w, 3, 0, 0, 0xff, 0xff, 0, 50, 8, 1, 0xf7, 0xca, 0, 0, 0, 2)
	w = start(t, 65531, 50, give("a"), send, give("b"), send, give("c"), send, give("d"), send, give("e"), send, give("f"), send, carry(1), carry(3), carry(5), carry(1))
	isFrame(t, w, 8, 0, 0, 0xff, 0xfb, 0, 50, 8, 3, 0xf7, 0xd3, 0, 0, 0, 1, 0xff, 0xfe, 0xff, 0xff, 0xff, 0xfc, 0xff, 0xfd) // from the last one on
	isFrame(t, w, 9, 0, 0, 0xff, 0xfb, 0, 50, 8, 3, 0xf7, 0xd3, 0xff, 0xfc, 0xff, 0xfd, 0, 0, 0, 1, 0xff, 0xfe, 0xff, 0xff) // the last place first
	isFrame(t, start(t, 7, api.MaxBytes, drain(0)), 0, 0, 0, 0, 7, 16, 0, 8, 0, 0xe7, 0xf8)
}

func TestFramesStay(t *testing.T) {
	w := start(t, 65534, 50, give("hello"), send, carry(0), carry(0), drain(9), back(1), back(2), expire, carry(0))
	isFrame(t, w, 0, 0xff, 0xfe, 0, 0, 0, 0, 0, 0, 0xbc, 0x2e, 'h', 'e', 'l', 'l', 'o')
	isFrame(t, w, 1, 0, 0, 0, 3, 0, 45, 8, 0, 0xf7, 0xcf)
	is(t, w, api.Hop{Kind: api.Hit, Id: 0, At: 11, By: 0x21}, api.Passed{})
	is(t, w, api.Hop{Kind: api.Hit, Id: 1, At: 9, By: 0xff}, api.Passed{})
	isFrame(t, w, 0, 0xff, 0xfe, 0, 0, 0, 0, 0, 0, 0xbc, 0x2e, 'h', 'D', 'l', 'l', 'o')
	isFrame(t, w, 1, 0, 0, 0, 3, 0, 45, 8, 0, 0xf7, 0x30)
}

func TestNew(t *testing.T) {
	for _, c := range []api.Line{{First: -1, Room: 5}, {First: api.Round, Room: 5}, {First: 5}, {First: 5, Room: -1}, {First: 5, Room: api.MaxBytes + 1}} {
		if w, code := New(c); code != api.ErrRange || w.frames != nil || w.first != 0 {
			t.Errorf("%+v: %d", c, code)
		}
	}
}

// P9.1: frames that neither end puts.

// lay: a frame of these bytes is put, with their sum in its place.
func lay(w *Wire, there bool, b ...byte) int {
	if len(b) >= 10 {
		sum := inet.Sum(b)
		b[8], b[9] = byte(sum>>8), byte(sum)
	}
	w.frames = append(w.frames, frame{bytes: b, there: there})
	return len(w.frames) - 1
}

// ahead: a frame on its way there, with this Seq.
func ahead(w *Wire, seq int, fin bool, data ...byte) int {
	return w.put(api.Segment{Seq: seq, Fin: fin, Data: data}, true)
}

// aback: a frame on its way back, with this Ack, and with two and two numbers as Sacks.
func aback(w *Wire, ack int, sacks ...int) int {
	s := api.Segment{Acks: true, Ack: ack, Window: 9}
	for ; len(sacks) > 0; sacks = sacks[2:] {
		s.Sacks = append(s.Sacks, api.Range{From: sacks[0], To: sacks[1]})
	}
	return w.put(s, false)
}

func TestWhatDecodeRefuses(t *testing.T) {
	for _, there := range []bool{true, false} {
		w := start(t, 7, 50, give("hello"), send, drain(0))
		for n := range 10 {
			comes(t, w, lay(w, there, make([]byte, n)...), there, api.ErrShort)
		}
		id := lay(w, there, make([]byte, 10)...)
		w.frames[id].bytes[9] ^= 1
		comes(t, w, id, there, api.ErrSum)
		comes(t, w, lay(w, there, 0, 0, 0, 0, 0, 0, 16, 0, 0, 0), there, api.ErrForm)         // no such flag
		comes(t, w, lay(w, there, 0, 0, 0, 7, 0, 0, 0, 0, 0, 0), there, api.ErrForm)          // Ack, without Acks
		comes(t, w, lay(w, there, 0, 0, 0, 7, 0, 0, 8, 1, 0, 0, 0, 8, 0), there, api.ErrForm) // half of the Sacks
		comes(t, w, lay(w, there, make([]byte, 10+65)...), there, api.ErrForm)                // too much Data
		comes(t, w, lay(w, there, 0, 6, 0, 0, 0, 0, 16, 0, 0, 0), there, api.ErrForm)         // and its place is below 0
		comes(t, w, lay(w, !there, 0, 0, 0, 0, 0, 0, 16, 0, 0, 0), there, api.ErrNone)        // the other way
		comes(t, w, lay(w, !there, make([]byte, 3)...), there, api.ErrNone)
		id = len(w.frames)
		is(t, w, carry(0), api.Passed{Put: true, Id: id})
		is(t, w, back(id), api.Passed{})
	}
}

// comes: a frame there, or back: what comes of it is this alone.
func comes(t *testing.T, w *Wire, id int, there bool, want api.Errno) {
	t.Helper()
	if there {
		is(t, w, carry(id), api.Passed{Code: want})
	} else {
		is(t, w, back(id), api.Passed{Code: want})
	}
}

func TestCarryOfAPlaceBelowZero(t *testing.T) {
	for _, first := range []int{0, 1, 10, 32768, 65535} {
		serial := func(place int) int { return (first + place + api.Round) % api.Round }
		w := start(t, first, 50, give("hello"), send)
		for _, place := range []int{-1, -2, -5, -64, -1000, -32767, -32768} { // of two as near the lower one
			is(t, w, carry(ahead(w, serial(place), false, 'x')), api.Passed{Code: api.ErrRange})
			is(t, w, carry(ahead(w, serial(place), true, 'x')), api.Passed{Code: api.ErrRange})
			is(t, w, carry(ahead(w, serial(place), false)), api.Passed{Code: api.ErrRange})
			is(t, w, carry(ahead(w, serial(place), false, make([]byte, 64)...)), api.Passed{Code: api.ErrRange})
		}
		for _, place := range []int{50, 51, 1000, 32767} { // dropped, but not refused
			id := ahead(w, serial(place), false, 'x')
			is(t, w, carry(id), api.Passed{Put: true, Id: id + 1})
		}
		is(t, w, carry(0), api.Passed{Put: true, Id: len(w.frames)})
		is(t, w, drain(9), api.Passed{Put: true, Id: len(w.frames), Data: []byte("hello")})
		for _, place := range []int{-1, -5, -32763} {
			is(t, w, carry(ahead(w, serial(place), false, 'x')), api.Passed{Code: api.ErrRange})
		}
		id := ahead(w, serial(32768), false, 'x') // now it is nearer
		is(t, w, carry(id), api.Passed{Put: true, Id: id + 1})
	}
}

func TestReturnOfAPlaceBelowZero(t *testing.T) {
	for _, first := range []int{0, 1, 10, 32768, 65535} {
		serial := func(place int) int { return (first + place + api.Round) % api.Round }
		w := start(t, first, 50, give("hello"), send)
		for _, place := range []int{-1, -2, -5, -64, -1000, -32767, -32768} {
			is(t, w, back(aback(w, serial(place))), api.Passed{Code: api.ErrRange})
			is(t, w, back(aback(w, serial(0), serial(place), serial(3))), api.Passed{Code: api.ErrRange})
			is(t, w, back(aback(w, serial(0), serial(1), serial(place))), api.Passed{Code: api.ErrRange})
			is(t, w, back(aback(w, serial(0), serial(1), serial(2), serial(place), serial(4))), api.Passed{Code: api.ErrRange})
			is(t, w, back(aback(w, serial(0), serial(1), serial(2), serial(3), serial(4), serial(4), serial(place))), api.Passed{Code: api.ErrRange})
			is(t, w, back(aback(w, serial(place), serial(1), serial(2))), api.Passed{Code: api.ErrRange})
		}
		is(t, w, expire, api.Passed{Left: 5}) // nothing was heard of
		is(t, w, back(aback(w, serial(0), serial(1), serial(2), serial(4), serial(5))), api.Passed{Left: 3})
		is(t, w, back(aback(w, serial(5))), api.Passed{})
	}
}

func TestWhatAnArriveRefuses(t *testing.T) {
	w := start(t, 65530, 50, give("hello"), shut, send, carry(0))
	for _, id := range []int{ahead(w, 65530, false, []byte("hello!")...), ahead(w, 0, false, 'x'), ahead(w, 65530, true, []byte("hell")...), ahead(w, 0, true), ahead(w, 65530, true)} { // the end is known: 5
		is(t, w, carry(id), api.Passed{Code: api.ErrState})
	}
	is(t, w, drain(9), api.Passed{Put: true, Id: 7, Data: []byte("hello"), End: true})
	w = start(t, 65530, 50, give("hello"), send, carry(0))
	is(t, w, carry(ahead(w, 65532, true, 'x')), api.Passed{Code: api.ErrState}) // ahead of what came
	is(t, w, drain(9), api.Passed{Put: true, Id: 3, Data: []byte("hello")})
}

func TestWhatAHeardRefuses(t *testing.T) {
	w := start(t, 65530, 50, give("hello"), send) // the first place that was never sent is 5: 65535
	for _, id := range []int{aback(w, 0), aback(w, 1), aback(w, 30000), aback(w, 65530, 65531, 0), aback(w, 65530, 65532, 65532), aback(w, 65530, 65533, 65532), aback(w, 65530, 65531, 65532, 65534, 0), aback(w, 65530, 5, 6)} {
		is(t, w, back(id), api.Passed{Code: api.ErrRange})
	}
	is(t, w, expire, api.Passed{Left: 5})
	is(t, w, back(aback(w, 65530, 65531, 65535)), api.Passed{Left: 1})
	is(t, w, back(aback(w, 65535)), api.Passed{})
}

// P9.1: near what a place is looked for, and what comes of streams that come round.

// longer: n more bytes go through, and are taken and heard of.
func longer(t *testing.T, w *Wire, n int) {
	t.Helper()
	for ; n > 0; n -= api.MaxData {
		piece := bytes.Repeat([]byte{byte(n >> 6)}, min(n, api.MaxData))
		start := len(w.frames)
		is(t, w, api.Hop{Kind: api.Give, Data: piece}, api.Passed{Left: len(piece)})
		is(t, w, send, api.Passed{Put: true, Id: start, Left: len(piece)})
		is(t, w, carry(start), api.Passed{Put: true, Id: start + 1})
		is(t, w, drain(api.MaxBytes), api.Passed{Put: true, Id: start + 2, Data: piece})
		is(t, w, back(start+2), api.Passed{})
	}
}

func TestStreamsThatComeRound(t *testing.T) {
	for _, first := range []int{0, 1, 40000, 65535} {
		for _, room := range []int{64, 1000, api.MaxBytes} {
			w := start(t, first, room)
			longer(t, w, 3*api.Round+17)
			if w.Missing() != 3*api.Round+17 || w.Unheard() != 3*api.Round+17 {
				t.Errorf("First %d, Room %d: %d, %d", first, room, w.Missing(), w.Unheard())
			}
		}
	}
}

// TestCarryLooksNearWhatDidNotCome: not near what is not heard of, and not near the beginning.
func TestCarryLooksNearWhatDidNotCome(t *testing.T) {
	const first = 65000
	w := start(t, first, 500)
	longer(t, w, 40000)
	id := len(w.frames)
	is(t, w, give("hello"), api.Passed{Left: 5})
	is(t, w, send, api.Passed{Put: true, Id: id, Left: 5})
	is(t, w, carry(id), api.Passed{Put: true, Id: id + 1}) // 40005 is the first place that did not come
	isOld := func(place int) {                             // it came, so with Fin it is refused
		t.Helper()
		is(t, w, carry(ahead(w, (first+place)%api.Round, true)), api.Passed{Code: api.ErrState})
	}
	isNew := func(place int) { // what is beyond the room is dropped
		t.Helper()
		id := ahead(w, (first+place)%api.Round, false, 'x')
		is(t, w, carry(id), api.Passed{Put: true, Id: id + 1})
	}
	isOld(40004)
	isOld(40005 - 32767)
	isOld(40005 - 32768) // of two as near the lower one
	isOld(8000)
	isNew(40005 - 32769)
	isNew(40005 + 32767)
	isNew(0) // it is taken for 65536
	is(t, w, carry(ahead(w, (first+40005)%api.Round, true)), api.Passed{Put: true, Id: len(w.frames)})
	is(t, w, drain(9), api.Passed{Put: true, Id: len(w.frames), Data: []byte("hello"), End: true})
	is(t, w, carry(0), api.Passed{Code: api.ErrState}) // place 65536 is above the end
}

// TestReturnLooksNearWhatIsNotHeardOf: not near what did not come, and not near the beginning.
func TestReturnLooksNearWhatIsNotHeardOf(t *testing.T) {
	const first = 65000
	serial := func(place int) int { return (first + place) % api.Round }
	w := start(t, first, 500)
	longer(t, w, 40000)
	id := len(w.frames)
	is(t, w, give("hello"), api.Passed{Left: 5})
	is(t, w, send, api.Passed{Put: true, Id: id, Left: 5})
	is(t, w, carry(id), api.Passed{Put: true, Id: id + 1}) // 40000 is the first place that is not heard of
	for _, place := range []int{40000 - 32768, 40000 - 32767, 8000, 39999, 40000} {
		is(t, w, back(aback(w, serial(place))), api.Passed{Left: 5}) // nothing new
		is(t, w, back(aback(w, serial(40000), serial(place), serial(40001))), api.Passed{Left: 4})
		w = start(t, first, 500)
		longer(t, w, 40000)
		is(t, w, give("hello"), api.Passed{Left: 5})
		is(t, w, send, api.Passed{Put: true, Id: id, Left: 5})
		is(t, w, carry(id), api.Passed{Put: true, Id: id + 1})
	}
	for _, place := range []int{40000 - 32769, 40000 + 32767, 0, 64, 40006} { // taken for one that was never sent
		is(t, w, back(aback(w, serial(place))), api.Passed{Code: api.ErrRange})
		is(t, w, back(aback(w, serial(40000), serial(40001), serial(place))), api.Passed{Code: api.ErrRange})
	}
	is(t, w, back(1), api.Passed{Code: api.ErrRange})
	is(t, w, back(id+1), api.Passed{})
}

// TestAsManyPlacesAsThereAre: up to MaxPos, and one more.
func TestAsManyPlacesAsThereAre(t *testing.T) {
	w := start(t, 65535, api.MaxBytes)
	longer(t, w, api.MaxPos-1)
	is(t, w, give("x"), api.Passed{Code: api.ErrFull})
	id := ahead(w, 65535-1, false, 'x', 'y') // at MaxPos-1; the place behind these is above it
	is(t, w, carry(id), api.Passed{Code: api.ErrRange})
	is(t, w, carry(ahead(w, 65535-1, true, 'x')), api.Passed{Code: api.ErrRange})
	is(t, w, shut, api.Passed{Left: 1})
	id = len(w.frames)
	is(t, w, send, api.Passed{Put: true, Id: id, Left: 1})
	is(t, w, carry(id), api.Passed{Put: true, Id: id + 1})
	is(t, w, back(id+1), api.Passed{})
	is(t, w, drain(9), api.Passed{Put: true, Id: id + 2, End: true})
	is(t, w, back(id+2), api.Passed{})
	is(t, w, send, api.Passed{Code: api.ErrNone})
}
