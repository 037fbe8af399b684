package talk_test

import (
	"testing"

	"packthread/api"
)

// P16.1: Pass.

// between: a request was made and sent, and what came of it told; the reply was sent. So on way 0 there are frames 0 (there), 1 and 2 (back), on way 1 frame 0 (there).
func between() []pair {
	return []pair{{call(mkdir("/d")), made(1)}, {send(0), put(0, 13)}, {carry(0, 0), put(1, 0)}, {work, worked(1, 2)}, {send(1), put(0, replied)}}
}

func TestNoSuchWay(t *testing.T) {
	for _, way := range append(far(), 2, 3, 256, 65536) {
		l := between()
		for _, kind := range []int{hopSend, hopHit, hopCarry, hopReturn, hopExpire, hopGive, hopShut, hopDrain, 0, 9, -1} { // it is named first
			l = append(l, pair{pass(way, api.Hop{Kind: kind}), refused(errRange)}, pair{pass(way, api.Hop{Kind: kind, Id: 1, By: 1, Data: []byte("x"), Count: -1}), refused(errRange)})
		}
		isPlay(t, plain, with(l, pair{expire(0), left(13)}, pair{expire(1), left(replied)}, pair{bring(0, 2), left(0)})...)
	}
}

func TestHopsThatAreNoneOfATalk(t *testing.T) {
	var l []pair
	for _, kind := range append(far(), hopGive, hopShut, hopDrain, 0, 9, 10, 256+hopSend, 65536+hopCarry) {
		for way := range 2 {
			for _, h := range []api.Hop{{}, {Data: make([]byte, widest+1), Count: -1}, {Count: widest}} {
				h.Kind = kind
				l = append(l, pair{pass(way, h), refused(errKind)})
			}
		}
	}
	if len(l) != 3*2*(len(far())+8) || len(l) > events-20 {
		t.Fatal(len(l))
	}
	isPlay(t, plain, with(l, once()...)...)
	isPlay(t, plain, join(between(), l, []pair{{expire(0), left(13)}, {expire(1), left(replied)}, {carry(1, 0), put(1, 0)}, {hear, heard(2, done(1))}})...)
}

func TestSend(t *testing.T) {
	for _, way := range []int{0, 1} {
		isPlay(t, plain, pair{send(way), refused(errNone)}, pair{expire(way), left(0)}, pair{send(way), refused(errNone)})
	}
	isPlay(t, plain, with(between(),
		pair{send(0), refused(errNone)}, pair{send(1), refused(errNone)},
		pair{expire(0), left(13)}, pair{send(1), refused(errNone)}, pair{send(0), put(3, 13)}, pair{send(0), refused(errNone)}, // each way waits by itself
		pair{expire(1), left(replied)}, pair{send(0), refused(errNone)}, pair{send(1), put(1, replied)}, pair{send(1), refused(errNone)},
		pair{bring(0, 1), left(0)}, pair{expire(0), left(0)}, pair{send(0), refused(errNone)},
		pair{call(list("/")), made(2)}, pair{send(0), put(4, 12)}, pair{send(1), refused(errNone)},
	)...)
}

// TestSendInPieces: of 64 bytes.
func TestSendInPieces(t *testing.T) {
	path := "/" + text(60)
	isPlay(t, plain,
		pair{call(status(path)), made(1)}, pair{call(status(path)), made(2)},
		pair{send(0), put(0, 144)}, pair{send(0), put(1, 144)}, pair{send(0), put(2, 144)}, pair{send(0), refused(errNone)},
		pair{carry(0, 0), put(3, 0)}, pair{bring(0, 3), left(80)}, pair{carry(0, 2), put(4, 0)}, pair{bring(0, 4), left(64)}, pair{carry(0, 1), put(5, 0)}, pair{bring(0, 5), left(0)},
		pair{hit(0, 2, head+16, 1), refused(errRange)}, pair{hit(0, 2, head+15, 1), api.Talked{}}, pair{hit(0, 1, head+64, 1), refused(errRange)}, pair{hit(0, 1, head+63, 1), api.Talked{}},
	)
}

func TestHit(t *testing.T) {
	l := between()
	for way := range 2 {
		for _, id := range append(far(), 3-2*way) { // as many frames as there are on that way
			l = append(l, pair{hit(way, id, 0, 1), refused(errNone)}, pair{hit(way, id, -1, 1), refused(errNone)})
		}
		bytes := head + 13
		if way == 1 {
			bytes = head + replied
		}
		for _, at := range append(far(), bytes) {
			l = append(l, pair{hit(way, 0, at, 1), refused(errRange)})
		}
	}
	isPlay(t, plain, l...)
	for at := range head + 13 {
		for _, by := range []byte{1, 2, 128, 255} {
			isPlay(t, plain, with(between(), pair{hit(0, 0, at, by), api.Talked{}}, pair{carry(0, 0), refused(errSum)}, pair{hit(0, 0, at, by), refused(errTwice)}, pair{hit(0, 0, head+13, by), refused(errRange)}, pair{hit(0, 3, at, by), refused(errNone)}, pair{carry(1, 0), put(1, 0)})...)
		}
	}
	for at := range head + replied {
		isPlay(t, plain, with(between(), pair{hit(1, 0, at, 64), api.Talked{}}, pair{carry(1, 0), refused(errSum)}, pair{hit(1, 0, 0, 1), refused(errTwice)}, pair{carry(0, 0), put(3, 0)}, pair{bring(0, 1), left(0)})...)
	}
	for at := range head {
		isPlay(t, plain, with(between(), pair{hit(0, 2, at, 8), api.Talked{}}, pair{bring(0, 2), refused(errSum)}, pair{hit(0, 2, at, 8), refused(errTwice)}, pair{bring(0, 1), left(0)})...)
	}
	isPlay(t, plain, with(between(), pair{hit(0, 0, 3, 0), api.Talked{}}, pair{hit(0, 0, 3, 0), refused(errTwice)}, pair{carry(0, 0), put(3, 0)})...)
}

func TestCarry(t *testing.T) {
	l := between()
	for way := range 2 {
		for _, id := range append(far(), 3-2*way, 4) {
			l = append(l, pair{carry(way, id), refused(errNone)})
		}
	}
	isPlay(t, plain, with(l, pair{carry(0, 1), refused(errNone)}, pair{carry(0, 2), refused(errNone)}, // these are no frames of Send
		pair{carry(1, 0), put(1, 0)}, pair{carry(1, 1), refused(errNone)}, pair{carry(1, 0), put(2, 0)}, pair{carry(0, 0), put(3, 0)}, pair{carry(0, 0), put(4, 0)})...)
}

func TestReturn(t *testing.T) {
	l := between()
	for way := range 2 {
		for _, id := range append(far(), 3-2*way, 4) {
			l = append(l, pair{bring(way, id), refused(errNone)})
		}
	}
	l = with(l, pair{bring(0, 0), refused(errNone)}, pair{bring(1, 0), refused(errNone)}) // these are
	isPlay(t, plain, with(l, pair{call(list("/")), made(2)}, pair{bring(0, 1), left(12)}, pair{bring(0, 1), left(12)}, pair{expire(0), left(12)}, pair{expire(1), left(replied)})...)
	isPlay(t, plain, with(l, pair{bring(0, 2), left(0)}, pair{carry(1, 0), put(1, 0)}, pair{hear, heard(2, done(1))}, pair{bring(1, 2), left(0)}, pair{bring(1, 1), left(0)})...)
}

func TestExpire(t *testing.T) {
	isPlay(t, plain, with(between(),
		pair{expire(0), left(13)}, pair{expire(0), left(13)}, pair{send(0), put(3, 13)}, pair{send(0), refused(errNone)},
		pair{expire(1), left(replied)}, pair{send(1), put(1, replied)}, pair{expire(1), left(replied)}, pair{send(1), put(2, replied)}, pair{send(1), refused(errNone)},
		pair{carry(1, 2), put(3, 0)}, pair{carry(1, 0), put(4, 0)}, pair{carry(1, 1), put(5, 0)}, pair{hear, heard(6, done(1))}, pair{hear, heard(7)}, pair{bring(1, 3), left(0)}, pair{expire(1), left(0)}, pair{send(1), refused(errNone)},
	)...)
}

// TestFramesOfEachWayAreNumberedByThemselves: of both ends of a way together.
func TestFramesOfEachWayAreNumberedByThemselves(t *testing.T) {
	isPlay(t, plain,
		pair{hear, heard(0)}, pair{hear, heard(1)}, pair{work, worked(0, 0)}, pair{hear, heard(2)},
		pair{call(mkdir("/d")), made(1)}, pair{send(0), put(1, 13)}, pair{carry(0, 1), put(2, 0)}, pair{work, worked(1, 3)}, pair{work, worked(0, 4)},
		pair{send(1), put(3, replied)}, pair{carry(1, 1), refused(errNone)}, pair{carry(1, 3), put(4, 0)}, pair{hear, heard(5, done(1))}, pair{work, worked(0, 5)},
	)
}
