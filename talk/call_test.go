package talk_test

import (
	"math"
	"strings"
	"testing"

	"packthread/api"
)

// P16.1: CallOut.

// sized: requests, and how many bytes the frame of each has.
type sized struct {
	bytes int
	l     []api.Request
}

// kinds: requests of each kind, of little and of much.
func kinds() []sized {
	much := strings.Repeat("/a", long/2)
	return []sized{
		{4 + 5 + 2 + 1, []api.Request{open("", 0), open("", 255)}},
		{4 + 5 + 2 + long + 1, []api.Request{open(much, both)}},
		{4 + 5 + 4, []api.Request{shut(0), shut(1<<32 - 1)}},
		{4 + 5 + 4 + 4 + 2, []api.Request{read(0, 0, 0), read(1<<32-1, 1<<32-1, 65535)}},
		{4 + 5 + 8 + 2, []api.Request{write(0, 0, "")}},
		{4 + 5 + 8 + 2 + chunk, []api.Request{write(1<<32-1, 1<<32-1, text(chunk))}},
		{4 + 5 + 2, []api.Request{status(""), list(""), mkdir(""), remove("")}},
		{4 + 5 + 2 + 2, []api.Request{status("/x"), list("/x"), mkdir("/x"), remove("/x")}},
		{4 + 5 + 2 + long, []api.Request{status(much), list(much), mkdir(much), remove(much)}},
		{4 + 5 + 2 + 2, []api.Request{move("", ""), link("", "")}},
		{4 + 5 + 4 + 2*long, []api.Request{move(much, much), link(much, much)}},
	}
}

func TestEachKindOfRequest(t *testing.T) {
	for _, k := range kinds() {
		n := k.bytes
		for _, r := range k.l {
			isPlay(t, plain, pair{call(r), made(1)}, pair{expire(0), left(n)}, pair{expire(1), left(0)}, pair{call(r), made(2)}, pair{send(0), put(0, 2*n)}, pair{expire(1), left(0)})
		}
	}
}

// TestMarksFromOneOn: whatever Mark the requests have.
func TestMarksFromOneOn(t *testing.T) {
	for _, mark := range append(far(), 0, 1, 2, 3, 99, 1<<32-1) {
		l := []pair{{call(mkdir("/d")), made(1)}, {call(mkdir("/d")), made(2)}, {call(list("/")), made(3)}, {send(0), put(0, 13+13+12)}, {carry(0, 0), put(1, 0)}, {work, worked(3, 2)}, {send(1), put(0, 2*replied+24)}, {send(1), put(1, 2*replied+24)}, {carry(1, 0), put(2, 0)}, {carry(1, 1), put(3, 0)}, {hear, heard(4, done(1), denied(2, errTwice), names(3, "d"))}, {call(mkdir("/e")), made(4)}}
		for i := range l {
			l[i].step.Request.Mark = mark
		}
		isPlay(t, plain, l...)
	}
}

// TestMarksGoOn: to as many as there may be.
func TestMarksGoOn(t *testing.T) {
	s := newScript(plain)
	for n := 1; len(s.steps) < events-8; n++ {
		if x := s.add(call(shut(n))); x.Id != n || x.Code != ok {
			t.Fatalf("%d: %+v", n, x)
		}
		x := s.add(send(0))
		s.add(carry(0, x.Id))
		s.add(work)
		x = s.add(send(1))
		s.add(carry(1, x.Id))
		if x := s.add(hear); len(x.Replies) != 1 || !sameReply(x.Replies[0], denied(n, errOld)) {
			t.Fatalf("%d: %+v", n, x)
		}
	}
	s.check(t, true)
}

// bad: a request that Ask refuses.
type bad struct {
	request api.Request
	code    api.Errno
}

// badRequests: in each of Ask's ways, and where two of them apply.
func badRequests() []bad {
	over := strings.Repeat("x", long+1)
	more := write(0, 0, text(chunk+1))
	return []bad{
		{api.Request{}, errKind}, {api.Request{Kind: -1}, errKind}, {api.Request{Kind: 11}, errKind}, {api.Request{Kind: 256 + kindNewDir, Path: "/d"}, errKind}, {api.Request{Kind: math.MinInt64, Path: over, How: -1}, errKind},
		{api.Request{Kind: kindNewDir, Path: "/d", To: "x"}, errForm}, {api.Request{Kind: kindNewDir, Path: "/d", How: 1}, errForm}, {api.Request{Kind: kindNewDir, Path: "/d", Handle: 1}, errForm}, {api.Request{Kind: kindNewDir, Path: "/d", At: 1}, errForm}, {api.Request{Kind: kindNewDir, Path: "/d", Count: -1}, errForm}, {api.Request{Kind: kindNewDir, Path: "/d", Data: []byte{0}}, errForm},
		{api.Request{Kind: kindShutdown, Path: "/"}, errForm}, {api.Request{Kind: kindOpen, Path: over, How: -1, Count: 1}, errForm},
		{open("/a", -1), errRange}, {open("/a", 256), errRange}, {open(over, 256), errRange}, {shut(-1), errRange}, {shut(1 << 32), errRange}, {read(0, -1, 1), errRange}, {read(0, 1<<32, 1), errRange}, {read(0, 0, 65536), errRange}, {read(0, 0, -1), errRange}, {write(-1, 0, text(chunk+1)), errRange},
		{open(over, 1), errSize}, {status(over), errSize}, {list(over), errSize}, {mkdir(over), errSize}, {remove(over), errSize}, {move(over, "/x"), errSize}, {move("/x", over), errSize}, {link(over, over), errSize}, {more, errSize},
	}
}

func TestWhatAskRefuses(t *testing.T) {
	var all []pair
	for _, b := range badRequests() {
		x := pair{call(b.request), refused(b.code)}
		all = append(all, x)
		isPlay(t, plain, x, pair{send(0), refused(errNone)}, pair{expire(0), left(0)}, pair{call(mkdir("/d")), made(1)}, x, pair{send(0), put(0, 13)}, x, pair{carry(0, 0), put(1, 0)}, x, pair{work, worked(1, 2)}, x, pair{call(mkdir("/e")), made(2)})
	}
	for i := range all { // none of them takes room of what may be out
		isPlay(t, plain, join(all, all[i:], all[:i], once())...)
	}
}

// six: as many requests as may be out.
func six() []pair {
	return []pair{{call(mkdir("/d")), made(1)}, {call(list("/")), made(2)}, {call(shut(0)), made(3)}, {call(status("")), made(4)}, {call(remove("/x")), made(5)}, {call(mkdir("/d")), made(6)}}
}

// bytesOfSix: their frames on the way there, and those of their replies.
const (
	bytesOfSix   = 13 + 12 + 13 + 11 + 13 + 13
	repliesToSix = 6*replied + 3
)

func TestNoMoreThanSixAreOut(t *testing.T) {
	l := six()
	for i := range 3 {
		l = append(l, pair{call(mkdir("/e")), refused(errFull)}, pair{expire(0), left(bytesOfSix)})
		l = append(l, pair{call(six()[i].step.Request), refused(errFull)})
	}
	for _, b := range badRequests() { // it is named first
		l = append(l, pair{call(b.request), refused(errFull)})
	}
	isPlay(t, plain, l...)
}

// TestRoomWhenAReplyIsHeard: not ahead of that: not when the request comes, when it is served, or when its reply comes.
func TestRoomWhenAReplyIsHeard(t *testing.T) {
	no := pair{call(mkdir("/e")), refused(errFull)}
	l := join(six(), []pair{
		no, {send(0), put(0, bytesOfSix)}, no, {send(0), put(1, bytesOfSix)}, {carry(0, 0), put(2, 0)}, no, {carry(0, 1), put(3, 0)}, no, {work, worked(6, 4)}, no, {bring(0, 4), left(0)}, no,
		{send(1), put(0, repliesToSix)}, no, {carry(1, 0), put(1, 0)}, no, // the first 64 bytes of the replies: two of them, and a part of one
		{hear, heard(2, done(1), names(2, "d"))}, {call(mkdir("/e")), made(7)}, {call(mkdir("/f")), made(8)}, no, {bring(1, 2), left(repliesToSix - packet)}, no,
		{send(1), put(3, repliesToSix-packet)}, {carry(1, 3), put(4, 0)}, no, {hear, heard(5, denied(3, errOld), api.Reply{Mark: 4, Kind: isDir, Size: 1}, denied(5, errNone))}, {call(mkdir("/g")), made(9)}, {call(mkdir("/h")), made(10)}, {call(list("/")), made(11)}, no,
		{send(1), put(6, repliesToSix-packet)}, {carry(1, 6), put(7, 0)}, {hear, heard(8, denied(6, errTwice))}, {call(list("/d")), made(12)}, no,
		{hear, heard(9)}, no,
	})
	isPlay(t, plain, l...)
}

// TestTheSameRequestAgain: each CallOut is one of its own.
func TestTheSameRequestAgain(t *testing.T) {
	isPlay(t, plain,
		pair{call(open("/f", both|forNew)), made(1)}, pair{call(open("/f", both|forNew)), made(2)}, pair{call(mkdir("/d")), made(3)}, pair{call(mkdir("/d")), made(4)},
		pair{send(0), put(0, 2*14+2*13)}, pair{carry(0, 0), put(1, 0)}, pair{work, worked(4, 2)},
		pair{send(1), put(0, 4*replied)}, pair{send(1), put(1, 4*replied)}, pair{carry(1, 0), put(2, 0)}, pair{carry(1, 1), put(3, 0)},
		pair{hear, heard(4, done(1), api.Reply{Mark: 2, Handle: 1}, done(3), denied(4, errTwice))},
	)
}
