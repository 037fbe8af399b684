package talk_test

import (
	"strings"
	"testing"

	"packthread/api"
)

// P16.1: Work.

func TestWorkWithoutBytes(t *testing.T) {
	isPlay(t, plain, pair{work, worked(0, 0)}, pair{work, worked(0, 1)}, pair{call(mkdir("/d")), made(1)}, pair{work, worked(0, 2)}, pair{send(0), put(3, 13)}, pair{work, worked(0, 4)}, pair{carry(0, 3), put(5, 0)}, pair{work, worked(1, 6)}, pair{work, worked(0, 7)}, pair{carry(0, 3), put(8, 0)}, pair{work, worked(0, 9)}, pair{expire(1), left(replied)})
}

func TestWorkOnSeveralRequests(t *testing.T) {
	l := six()
	for n := 1; n <= flight; n++ {
		bytes := 0
		for _, p := range l[:n] {
			bytes += 9 + 2*min(1, p.step.Request.Kind-kindShutdown) + len(p.step.Request.Path)
			if p.step.Request.Kind == kindShutdown {
				bytes += 4
			}
		}
		one := with(l[:n], pair{send(0), put(0, bytes)}, pair{carry(0, 0), put(1, 0)})
		drain := pair{work, worked(n, 2)}
		if bytes > packet {
			drain = pair{work, worked(n-1, 2)} // the last one is not whole
		}
		isPlay(t, plain, with(one, drain, pair{work, worked(0, 3)}, pair{bring(0, 2), left(max(0, bytes-packet))})...)
	}
}

// TestARequestInPieces: it is served when all of it came, and is not made by what came ahead.
func TestARequestInPieces(t *testing.T) {
	path := "/" + strings.Repeat("x/../", 37) + "d" // the frame has 198 bytes: four pieces of it are sent
	isPlay(t, plain,
		pair{call(mkdir(path)), made(1)}, pair{call(list("/")), made(2)},
		pair{send(0), put(0, 210)}, pair{send(0), put(1, 210)}, pair{send(0), put(2, 210)}, pair{send(0), put(3, 210)}, pair{send(0), refused(errNone)},
		pair{work, worked(0, 4)}, pair{carry(0, 0), put(5, 0)}, pair{work, worked(0, 6)}, pair{expire(1), left(0)}, pair{carry(0, 1), put(7, 0)}, pair{work, worked(0, 8)}, pair{work, worked(0, 9)}, pair{carry(0, 3), put(10, 0)}, pair{work, worked(0, 11)}, pair{expire(1), left(0)},
		pair{carry(0, 2), put(12, 0)}, pair{work, worked(2, 13)}, pair{expire(1), left(2*replied + 3)},
		pair{send(1), put(0, 2*replied+3)}, pair{carry(1, 0), put(1, 0)}, pair{hear, heard(2, done(1), names(2, "d"))},
	)
}

// TestARequestByteByByte: so does its length come.
func TestARequestByteByByte(t *testing.T) {
	s := newScript(api.Line{First: 65535, Room: 1})
	s.calls(t, mkdir("/d"), list("/"))
	for n := range 25 {
		s.add(carry(0, s.add(send(0)).Id))
		x := s.add(work)
		if want := map[int]int{12: 1, 24: 1}[n]; x.Count != want {
			t.Fatalf("byte %d: %+v", n, x)
		}
		if x := s.add(bring(0, x.Id)); x.Left != 24-n {
			t.Fatalf("byte %d: %+v", n, x)
		}
	}
	for n := range 2*replied + 3 {
		s.add(carry(1, s.add(send(1)).Id))
		x := s.add(hear)
		s.add(bring(1, x.Id))
		if (n == replied-1 || n == 2*replied+2) != (len(x.Replies) == 1) {
			t.Fatalf("byte %d: %+v", n, x)
		}
	}
	s.check(t, true)
}

// TestAFrameAndAPartOfTheNextOne: what is held is looked at with what comes behind it.
func TestAFrameAndAPartOfTheNextOne(t *testing.T) {
	for n := 1; n < 25; n++ {
		c := api.Line{First: 7, Room: n}
		s := newScript(c)
		s.calls(t, mkdir("/d"), mkdir("/e"), mkdir("/f"))
		for at := 0; at < 39; at += n {
			s.add(expire(0))
			s.add(carry(0, s.add(send(0)).Id))
			x := s.add(work)
			if want := min(39, at+n)/13 - at/13; x.Count != want {
				t.Fatalf("Room %d, at %d: %+v, want %d", n, at, x, want)
			}
			s.add(bring(0, x.Id))
		}
		s.check(t, false)
	}
}

// TestRequestsThatAreHarmedLostDoubledAndLate: each is served once, and in its order.
func TestRequestsThatAreHarmedLostDoubledAndLate(t *testing.T) {
	isPlay(t, plain,
		pair{call(mkdir("/a")), made(1)}, pair{send(0), put(0, 13)},
		pair{call(move("/a", "/b")), made(2)}, pair{send(0), put(1, 30)}, // it will be lost
		pair{call(mkdir("/a")), made(3)}, pair{send(0), put(2, 43)},
		pair{call(move("/b", "/a/c")), made(4)}, pair{send(0), put(3, 62)}, // it will be harmed
		pair{call(list("/a")), made(5)}, pair{send(0), put(4, 75)},
		pair{hit(0, 3, 15, 32), api.Talked{}}, pair{carry(0, 4), put(5, 0)}, pair{carry(0, 3), refused(errSum)}, pair{work, worked(0, 6)}, pair{carry(0, 2), put(7, 0)}, pair{carry(0, 2), put(8, 0)}, pair{work, worked(0, 9)}, pair{expire(1), left(0)},
		pair{carry(0, 0), put(10, 0)}, pair{work, worked(1, 11)}, pair{carry(0, 0), put(12, 0)}, pair{work, worked(0, 13)}, pair{bring(0, 13), left(36)}, // it is known that 3 and 5 came
		pair{expire(0), left(36)}, pair{send(0), put(14, 36)}, pair{send(0), put(15, 36)}, pair{send(0), refused(errNone)},
		pair{carry(0, 15), put(16, 0)}, pair{work, worked(0, 17)}, pair{carry(0, 14), put(18, 0)}, pair{work, worked(4, 19)}, pair{carry(0, 3), refused(errSum)}, pair{carry(0, 4), put(20, 0)}, pair{carry(0, 15), put(21, 0)}, pair{work, worked(0, 22)}, pair{bring(0, 22), left(0)},
		pair{send(1), put(0, 5*replied+3)}, pair{send(1), put(1, 5*replied+3)}, pair{carry(1, 1), put(2, 0)}, pair{carry(1, 0), put(3, 0)},
		pair{hear, heard(4, done(1), done(2), done(3), done(4), names(5, "c"))},
	)
}

// TestRepliesOfEachSort: who serves is one from the first step on to the last one.
func TestRepliesOfEachSort(t *testing.T) {
	l := []pair{}
	n := 0
	one := func(r api.Request, bytes int, want api.Reply, back int) {
		n++
		want.Mark = n
		there := 3 * (n - 1)
		l = append(l,
			pair{call(r), made(n)}, pair{send(0), put(there, bytes)}, pair{carry(0, there), put(there+1, 0)}, pair{bring(0, there+1), left(0)}, pair{work, worked(1, there+2)},
			pair{send(1), put(there, back)}, pair{carry(1, there), put(there+1, 0)}, pair{bring(1, there+1), left(0)}, pair{hear, heard(there+2, want)})
	}
	one(open("/f", both|forNew), 14, api.Reply{}, replied)
	one(write(0, 1, "bcd"), 22, api.Reply{Size: 4}, replied)
	one(read(0, 0, 3), 19, data(0, "\x00bc"), replied+3)
	one(open("/f", 1), 14, api.Reply{Handle: 1}, replied)
	one(write(1, 0, "x"), 20, denied(0, errDenied), replied)
	one(shut(0), 13, api.Reply{}, replied)
	one(open("/f", both), 14, api.Reply{Handle: 8}, replied)
	one(read(0, 0, 3), 19, denied(0, errOld), replied)
	one(read(8, 0, 0), 19, denied(0, errSize), replied)
	one(status("/f"), 13, api.Reply{Kind: isFile, Size: 4}, replied)
	one(mkdir("/d"), 13, api.Reply{}, replied)
	one(link("/d/l", "../f"), 21, api.Reply{}, replied)
	one(read(8, 1, 100), 19, data(0, "bcd"), replied+3)
	one(open("/d", 1), 14, denied(0, errDir), replied)
	one(list("/"), 12, names(0, "d f"), replied+6)
	one(remove("/d"), 13, denied(0, errNotEmpty), replied)
	one(move("/f", "/d/l/"), 20, denied(0, errTwice), replied)
	one(move("/f", "/d/g"), 19, api.Reply{}, replied)
	one(read(8, 1, 100), 19, denied(0, errNone), replied)
	one(status("/d/l"), 15, denied(0, errNone), replied)
	one(list("/d"), 13, names(0, "g l"), replied+6)
	one(open("/d/g", 0), 16, denied(0, errForm), replied)
	isPlay(t, plain, l...)
}

// TestMoreRepliesThanThereIsRoomFor: they wait at who serves, and are sent when there is room.
func TestMoreRepliesThanThereIsRoomFor(t *testing.T) {
	const all = flight*replied + 5*12
	for _, room := range []int{64, 70, 128, 185} {
		s := newScript(api.Line{First: 65000, Room: room})
		for n := range 5 {
			s.calls(t, mkdir("/directory"+string(byte('a'+n))))
		}
		s.calls(t, list("/"))
		for range 2 {
			s.clear(0)
			s.add(bring(0, s.add(work).Id))
		}
		if x := s.add(expire(1)); len(s.served) != flight || x.Left != all {
			t.Fatalf("Room %d: %d served, %+v", room, len(s.served), x)
		}
		sent := 0
		for s.add(send(1)).Put {
			sent++
		}
		if sent != (room+packet-1)/packet {
			t.Fatalf("Room %d: %d frames", room, sent)
		}
		if !s.round() {
			t.Fatalf("Room %d: %d steps", room, len(s.steps))
		}
		s.check(t, true)
	}
}

// TestTheGreatestReplies: six of some 700 bytes, with as many names as there may be.
func TestTheGreatestReplies(t *testing.T) {
	s := newScript(plain)
	for n := range 39 {
		s.calls(t, mkdir("/"+strings.Repeat(string(byte('A'+n)), 16)))
		if n%6 == 5 || n == 38 {
			for s.add(expire(0)).Left > 0 {
				s.add(bring(0, s.add(carry(0, s.add(send(0)).Id)).Id))
			}
			s.add(work)
			for s.add(expire(1)).Left > 0 {
				s.add(bring(1, s.add(carry(1, s.add(send(1)).Id)).Id))
			}
			s.add(hear)
		}
	}
	s.calls(t, list("/"))
	s.add(carry(0, s.add(send(0)).Id))
	s.add(work)
	if x := s.add(expire(1)); x.Left != replied+39*18 {
		t.Fatalf("%+v", x)
	}
	for range 12 {
		s.add(carry(1, s.add(send(1)).Id))
	}
	if x := s.add(hear); len(x.Replies) != 1 || len(x.Replies[0].Names) != 39 {
		t.Fatalf("%d: %+v", len(s.steps), x)
	}
	s.check(t, true)
}

// TestWorkHearsOfNothing: neither of what comes on way 1, nor does Hear of what comes on way 0.
func TestWorkHearsOfNothing(t *testing.T) {
	isPlay(t, plain,
		pair{call(mkdir("/d")), made(1)}, pair{send(0), put(0, 13)}, pair{carry(0, 0), put(1, 0)}, pair{hear, heard(0)}, pair{hear, heard(1)}, pair{expire(1), left(0)},
		pair{work, worked(1, 2)}, pair{send(1), put(2, replied)}, pair{carry(1, 2), put(3, 0)}, pair{work, worked(0, 3)}, pair{work, worked(0, 4)},
		pair{hear, heard(4, done(1))},
	)
}

// TestRoomComesWithWork: what is drained makes room, and the frame that is put tells of it.
func TestRoomComesWithWork(t *testing.T) {
	c := api.Line{First: 65530, Room: 13}
	isPlay(t, c,
		pair{call(mkdir("/d")), made(1)}, pair{call(mkdir("/e")), made(2)}, pair{send(0), put(0, 26)}, pair{send(0), refused(errNone)},
		pair{carry(0, 0), put(1, 0)}, pair{bring(0, 1), left(13)}, pair{send(0), refused(errNone)}, // it came, but there is no room
		pair{work, worked(1, 2)}, pair{send(0), refused(errNone)}, pair{bring(0, 2), left(13)}, pair{send(0), put(3, 13)}, pair{carry(0, 3), put(4, 0)}, pair{work, worked(1, 5)}, pair{bring(0, 5), left(0)},
		pair{send(1), put(0, 2*replied)}, pair{send(1), refused(errNone)}, pair{carry(1, 0), put(1, 0)}, pair{bring(1, 1), left(2*replied - 13)}, pair{send(1), refused(errNone)},
		pair{hear, heard(2)}, pair{bring(1, 2), left(2*replied - 13)}, pair{send(1), put(3, 2*replied-13)}, pair{carry(1, 3), put(4, 0)}, pair{hear, heard(5, done(1))}, pair{bring(1, 5), left(2*replied - 26)}, pair{send(1), put(6, 2*replied-26)}, pair{carry(1, 6), put(7, 0)}, pair{hear, heard(8)}, pair{bring(1, 8), left(2*replied - 39)}, pair{send(1), put(9, 2*replied-39)}, pair{carry(1, 9), put(10, 0)}, pair{hear, heard(11, done(2))},
	)
}
