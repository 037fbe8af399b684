package talk_test

import (
	"testing"

	"packthread/api"
)

// P16.1: Hear.

// three: three requests that are served; their replies are sent in so many frames of 66 bytes in all.
func three(room int) *script {
	s := newScript(api.Line{First: 65490, Room: room})
	for _, r := range []api.Request{mkdir("/d"), list("/"), mkdir("/d")} {
		s.add(call(r))
	}
	for range 40 {
		s.add(bring(0, s.add(carry(0, s.add(send(0)).Id)).Id))
		s.add(bring(0, s.add(work).Id))
		if len(s.served) == 3 {
			break
		}
	}
	return s
}

// repliesOfThree: so are they.
func repliesOfThree() []api.Reply {
	return []api.Reply{done(1), names(2, "d"), denied(3, errTwice)}
}

func TestHearWithoutBytes(t *testing.T) {
	isPlay(t, plain, pair{hear, heard(0)}, pair{hear, heard(1)}, pair{call(mkdir("/d")), made(1)}, pair{hear, heard(2)}, pair{send(0), put(0, 13)}, pair{carry(0, 0), put(1, 0)}, pair{work, worked(1, 2)}, pair{hear, heard(3)}, pair{send(1), put(4, replied)}, pair{hear, heard(5)}, pair{carry(1, 4), put(6, 0)}, pair{hear, heard(7, done(1))}, pair{hear, heard(8)})
}

// TestRepliesOneByOneAndAtOnce: each is told once, in their order.
func TestRepliesOneByOneAndAtOnce(t *testing.T) {
	l := []pair{
		{call(mkdir("/d")), made(1)}, {call(list("/")), made(2)}, {call(mkdir("/d")), made(3)}, {send(0), put(0, 38)}, {carry(0, 0), put(1, 0)}, {work, worked(3, 2)},
		{send(1), put(0, 66)}, {send(1), put(1, 66)},
	}
	all := repliesOfThree()
	isPlay(t, plain, with(l, pair{carry(1, 0), put(2, 0)}, pair{carry(1, 1), put(3, 0)}, pair{hear, heard(4, all...)}, pair{hear, heard(5)})...)
	isPlay(t, plain, with(l, pair{carry(1, 0), put(2, 0)}, pair{hear, heard(3, all[:2]...)}, pair{carry(1, 0), put(4, 0)}, pair{hear, heard(5)}, pair{carry(1, 1), put(6, 0)}, pair{hear, heard(7, all[2])}, pair{carry(1, 1), put(8, 0)}, pair{hear, heard(9)})...)
	isPlay(t, plain, with(l, pair{carry(1, 1), put(2, 0)}, pair{hear, heard(3)}, pair{carry(1, 1), put(4, 0)}, pair{hear, heard(5)}, pair{carry(1, 0), put(6, 0)}, pair{hear, heard(7, all...)}, pair{hear, heard(8)})...)
	isPlay(t, plain, with(l, pair{carry(1, 0), put(2, 0)}, pair{carry(1, 0), put(3, 0)}, pair{carry(1, 1), put(4, 0)}, pair{carry(1, 1), put(5, 0)}, pair{hear, heard(6, all...)}, pair{hear, heard(7)})...)
}

// TestRepliesOfWorksOneBehindAnother: one Hear tells them together, and one of its own each.
func TestRepliesOfWorksOneBehindAnother(t *testing.T) {
	l := []pair{
		{call(mkdir("/d")), made(1)}, {send(0), put(0, 13)}, {carry(0, 0), put(1, 0)}, {bring(0, 1), left(0)}, {work, worked(1, 2)}, {send(1), put(0, replied)},
		{call(list("/")), made(2)}, {send(0), put(3, 12)}, {carry(0, 3), put(4, 0)}, {bring(0, 4), left(0)}, {work, worked(1, 5)}, {send(1), put(1, replied+24)},
	}
	isPlay(t, plain, with(l, pair{carry(1, 0), put(2, 0)}, pair{hear, heard(3, done(1))}, pair{carry(1, 1), put(4, 0)}, pair{hear, heard(5, names(2, "d"))})...)
	isPlay(t, plain, with(l, pair{carry(1, 1), put(2, 0)}, pair{hear, heard(3)}, pair{carry(1, 0), put(4, 0)}, pair{hear, heard(5, done(1), names(2, "d"))})...)
	isPlay(t, plain, with(l, pair{carry(1, 0), put(2, 0)}, pair{carry(1, 1), put(3, 0)}, pair{hear, heard(4, done(1), names(2, "d"))}, pair{hear, heard(5)})...)
}

// TestRepliesInPieces: of each size.
func TestRepliesInPieces(t *testing.T) {
	for room := 4; room < 70; room++ {
		s := three(room)
		if len(s.served) != 3 {
			t.Fatalf("Room %d: %d served", room, len(s.served))
		}
		for at := 0; at < 66; {
			n := min(room, packet, 66-at)
			x := s.add(send(1))
			if x.Left != 66-at {
				t.Fatalf("Room %d, at %d: %+v", room, at, x)
			}
			s.add(carry(1, x.Id))
			x = s.add(hear)
			want := 0
			for _, end := range []int{21, 45, 66} {
				if at < end && end <= at+n {
					want++
				}
			}
			if len(x.Replies) != want || x.Count != 0 {
				t.Fatalf("Room %d, at %d: %+v, want %d", room, at, x, want)
			}
			s.add(bring(1, x.Id))
			at += n
		}
		if len(replies(s.want)) != 3 {
			t.Fatalf("Room %d: %v", room, replies(s.want))
		}
		s.check(t, true)
	}
}

// TestRepliesThatAreHarmedLostAndLate: they come with what is sent again.
func TestRepliesThatAreHarmedLostAndLate(t *testing.T) {
	l := []pair{
		{call(mkdir("/d")), made(1)}, {call(list("/")), made(2)}, {call(mkdir("/d")), made(3)}, {send(0), put(0, 38)}, {carry(0, 0), put(1, 0)}, {work, worked(3, 2)},
		{send(1), put(0, 66)}, {send(1), put(1, 66)}, {hit(1, 0, head, 1), api.Talked{}}, {carry(1, 0), refused(errSum)}, {hear, heard(2)}, {carry(1, 1), put(3, 0)}, {bring(1, 3), left(64)}, {hear, heard(4)},
		{expire(1), left(64)}, {send(1), put(5, 64)}, {send(1), refused(errNone)}, {carry(1, 5), put(6, 0)}, {hear, heard(7, repliesOfThree()...)},
		{carry(1, 0), refused(errSum)}, {carry(1, 5), put(8, 0)}, {carry(1, 1), put(9, 0)}, {hear, heard(10)}, {bring(1, 3), left(64)}, {bring(1, 7), left(0)}, {bring(1, 10), left(0)},
	}
	isPlay(t, plain, l...)
}

// TestRoomComesWithHear: as with Work.
func TestRoomComesWithHear(t *testing.T) {
	c := api.Line{First: 1, Room: 45}
	isPlay(t, c,
		pair{call(mkdir("/d")), made(1)}, pair{call(list("/")), made(2)}, pair{call(mkdir("/d")), made(3)}, pair{send(0), put(0, 38)}, pair{carry(0, 0), put(1, 0)}, pair{work, worked(3, 2)},
		pair{send(1), put(0, 66)}, pair{send(1), refused(errNone)}, pair{carry(1, 0), put(1, 0)}, pair{bring(1, 1), left(21)}, pair{send(1), refused(errNone)},
		pair{hear, heard(2, done(1), names(2, "d"))}, pair{send(1), refused(errNone)}, pair{bring(1, 2), left(21)}, pair{send(1), put(3, 21)}, pair{carry(1, 3), put(4, 0)}, pair{hear, heard(5, denied(3, errTwice))}, pair{bring(1, 5), left(0)},
	)
}

// TestARefusalIsAReply: its Code is told, and it makes room.
func TestARefusalIsAReply(t *testing.T) {
	var l []pair
	for n := range 8 {
		there := 3 * n
		l = append(l, pair{call(shut(n)), made(n + 1)}, pair{send(0), put(there, 13)}, pair{carry(0, there), put(there+1, 0)}, pair{bring(0, there+1), left(0)}, pair{work, worked(1, there+2)}, pair{send(1), put(there, replied)}, pair{carry(1, there), put(there+1, 0)}, pair{bring(1, there+1), left(0)}, pair{hear, heard(there+2, denied(n+1, errOld))})
	}
	isPlay(t, plain, l...)
}
