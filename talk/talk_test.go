package talk_test

import (
	"bytes"
	"fmt"
	"math"
	"slices"
	"strings"
	"testing"

	"packthread/api"
	"packthread/talk"
)

// The limits, the kinds and the numbers of errors, written out: they must not move with the program.
const (
	events = 300
	round  = 65536 // serial numbers
	widest = 4096  // bytes of room
	flight = 6     // requests that are out
	packet = 64    // bytes of a frame of Send
	head   = 10    // bytes of it ahead of these
	long   = 200   // bytes of a path
	chunk  = 100   // bytes that are read, or written, at once

	kindCallOut = 1
	kindPass    = 2
	kindWork    = 3
	kindHear    = 4

	hopGive   = 1
	hopShut   = 2
	hopSend   = 3
	hopHit    = 4
	hopCarry  = 5
	hopReturn = 6
	hopExpire = 7
	hopDrain  = 8

	kindOpen     = 1
	kindShutdown = 2
	kindReadAt   = 3
	kindWriteAt  = 4
	kindStatus   = 5
	kindNames    = 6
	kindNewDir   = 7
	kindDelete   = 8
	kindMove     = 9
	kindSymlink  = 10

	both    = 3 // ForRead and ForWrite
	forNew  = 4
	isDir   = 1
	isFile  = 2
	replied = 21 // bytes of the frame of a reply that says no more than its Mark and its Code

	ok          = api.Errno(0)
	errSize     = api.Errno(1)
	errRange    = api.Errno(2)
	errKind     = api.Errno(3)
	errForm     = api.Errno(4)
	errSum      = api.Errno(6)
	errNone     = api.Errno(7)
	errTwice    = api.Errno(8)
	errFull     = api.Errno(9)
	errDenied   = api.Errno(12)
	errDir      = api.Errno(14)
	errNotEmpty = api.Errno(16)
	errOld      = api.Errno(17)
)

// plain: lines with as much room as may be.
var plain = api.Line{First: 65500, Room: widest}

// pair: a step, and what it should come to.
type pair struct {
	step api.Step
	want api.Talked
}

// Steps.

func call(r api.Request) api.Step { return api.Step{Kind: kindCallOut, Request: r} }

func pass(way int, h api.Hop) api.Step { return api.Step{Kind: kindPass, Way: way, Hop: h} }

func send(way int) api.Step { return pass(way, api.Hop{Kind: hopSend}) }

func hit(way, id, at int, by byte) api.Step {
	return pass(way, api.Hop{Kind: hopHit, Id: id, At: at, By: by})
}

func carry(way, id int) api.Step { return pass(way, api.Hop{Kind: hopCarry, Id: id}) }

func bring(way, id int) api.Step { return pass(way, api.Hop{Kind: hopReturn, Id: id}) }

func expire(way int) api.Step { return pass(way, api.Hop{Kind: hopExpire}) }

var (
	work = api.Step{Kind: kindWork}
	hear = api.Step{Kind: kindHear}
)

// Requests.

func open(p string, how int) api.Request { return api.Request{Kind: kindOpen, Path: p, How: how} }

func shut(h int) api.Request { return api.Request{Kind: kindShutdown, Handle: h} }

func read(h, at, n int) api.Request {
	return api.Request{Kind: kindReadAt, Handle: h, At: at, Count: n}
}

func write(h, at int, s string) api.Request {
	return api.Request{Kind: kindWriteAt, Handle: h, At: at, Data: []byte(s)}
}

func status(p string) api.Request { return api.Request{Kind: kindStatus, Path: p} }

func list(p string) api.Request { return api.Request{Kind: kindNames, Path: p} }

func mkdir(p string) api.Request { return api.Request{Kind: kindNewDir, Path: p} }

func remove(p string) api.Request { return api.Request{Kind: kindDelete, Path: p} }

func move(p, to string) api.Request { return api.Request{Kind: kindMove, Path: p, To: to} }

func link(p, to string) api.Request { return api.Request{Kind: kindSymlink, Path: p, To: to} }

// What steps come to.

func made(mark int) api.Talked { return api.Talked{Id: mark} }

// put: a frame was put, and so much is left.
func put(id, left int) api.Talked { return api.Talked{Put: true, Id: id, Left: left} }

func left(n int) api.Talked { return api.Talked{Left: n} }

// worked: so many frames came; that this is known is told by frame id.
func worked(n, id int) api.Talked { return api.Talked{Put: true, Id: id, Count: n} }

// heard: these replies came; that this is known is told by frame id.
func heard(id int, l ...api.Reply) api.Talked { return api.Talked{Put: true, Id: id, Replies: l} }

func refused(code api.Errno) api.Talked { return api.Talked{Code: code} }

// Replies.

// done: the reply with this Mark that says nothing else.
func done(mark int) api.Reply { return api.Reply{Mark: mark} }

func denied(mark int, code api.Errno) api.Reply { return api.Reply{Mark: mark, Code: code} }

func names(mark int, s string) api.Reply { return api.Reply{Mark: mark, Names: strings.Fields(s)} }

func data(mark int, s string) api.Reply { return api.Reply{Mark: mark, Data: []byte(s)} }

// sameReply: whether two replies are alike; lists without elements may be nil or not.
func sameReply(a, b api.Reply) bool {
	return a.Mark == b.Mark && a.Code == b.Code && a.Handle == b.Handle && a.Kind == b.Kind && a.Size == b.Size && bytes.Equal(a.Data, b.Data) && slices.Equal(a.Names, b.Names)
}

// same: so of what steps come to.
func same(a, b api.Talked) bool {
	return a.Code == b.Code && a.Put == b.Put && a.Id == b.Id && a.Left == b.Left && a.Count == b.Count && slices.EqualFunc(a.Replies, b.Replies, sameReply)
}

func shows(l []api.Talked, code api.Errno) string {
	s := fmt.Sprint(int(code))
	for _, x := range l {
		s += fmt.Sprintf("{Code %d Put %v Id %d Left %d Count %d Replies %q}", x.Code, x.Put, x.Id, x.Left, x.Count, fmt.Sprint(x.Replies))
	}
	return s
}

func sketch(s api.Step) string {
	return fmt.Sprintf("{%d request %d mark %d %.20q %.20q %d %d %d %d data %d way %d hop %d id %d at %d by %d}", s.Kind, s.Request.Kind, s.Request.Mark, s.Request.Path, s.Request.To, s.Request.How, s.Request.Handle, s.Request.At, s.Request.Count, len(s.Request.Data), s.Way, s.Hop.Kind, s.Hop.Id, s.Hop.At, s.Hop.By)
}

func sketches(l []api.Step) string {
	var s []string
	for _, x := range l {
		s = append(s, sketch(x))
	}
	return strings.Join(s, "\n")
}

// isList: these steps come to what is wanted.
func isList(t *testing.T, c api.Line, l []api.Step, want []api.Talked) {
	t.Helper()
	got, code := talk.Play(c, l)
	if code != ok || len(got) != len(want) {
		t.Fatalf("Play(%v,\n%s): %d told, %d; want %d", c, sketches(l), len(got), code, len(want))
	}
	for i := range got {
		if !same(got[i], want[i]) {
			t.Fatalf("Play(%v,\n%s), at %d: %s, want %s", c, sketches(l[:i+1]), i, shows(got[i:i+1], 0), shows(want[i:i+1], 0))
		}
	}
}

// litter: the same step, with something in all that its kind does not name.
func litter(s api.Step, n int) api.Step {
	h := api.Hop{Kind: []int{hopSend, hopExpire, hopGive, hopDrain, 77}[n%5], Data: []byte("litter"), Id: n % 3, At: 2, By: 7, Count: 9}
	if s.Kind == kindPass {
		s.Request = api.Request{Kind: kindNewDir, Mark: 5, Path: "/litter"}
		s.Hop.Data, s.Hop.Count = h.Data, n*7-3
		if s.Hop.Kind != hopHit {
			s.Hop.At, s.Hop.By = -n, 9
		}
		if s.Hop.Kind == hopSend || s.Hop.Kind == hopExpire {
			s.Hop.Id = n*5 - 4
		}
		return s
	}
	if s.Kind == kindCallOut {
		s.Request.Mark = []int{0, 1, 99, -1, math.MaxInt64, math.MinInt64, 1 << 32}[n%7]
	} else {
		s.Request = api.Request{Kind: kindDelete, Mark: n, Path: "/d", To: "/x", How: 9, Handle: 1, At: 2, Count: 3, Data: []byte("litter")}
	}
	s.Way, s.Hop = []int{0, 1, 2, -1}[n%4], h
	return s
}

// isPlay: each step comes to what stands beside it, also when nothing follows, when all that is not named is littered, and when all that is refused is left out.
func isPlay(t *testing.T, c api.Line, pairs ...pair) {
	t.Helper()
	var l, littered, granted []api.Step
	var want, told []api.Talked
	isList(t, c, l, want)
	for i, p := range pairs {
		l, littered, want = append(l, p.step), append(littered, litter(p.step, i)), append(want, p.want)
		isList(t, c, l, want)
		if p.want.Code == ok {
			granted, told = append(granted, p.step), append(told, p.want)
		}
	}
	isList(t, c, littered, want)
	isList(t, c, granted, told)
}

// isNothing: all of these together come to this code, and nothing is told beside that.
func isNothing(t *testing.T, c api.Line, l []api.Step, want api.Errno) {
	t.Helper()
	if got, code := talk.Play(c, l); code != want || len(got) != 0 {
		t.Fatalf("%v, %d steps: %d told, %d; want none, %d", c, len(l), len(got), code, want)
	}
}

// with: these pairs behind those, in new memory.
func with(l []pair, more ...pair) []pair { return append(slices.Clone(l), more...) }

// join: lists of pairs one behind another.
func join(l ...[]pair) []pair { return slices.Concat(l...) }

// far: numbers beyond all bounds, some of which look small when bits are cut off.
func far() []int {
	return []int{
		1<<31 - 1, 1 << 31, 1<<31 + 1, 1 << 32, 1<<32 + 1, 1<<32 + 3, 1<<32 + 7, 1<<48 + 1, 1 << 62, 1<<62 + 1, math.MaxInt64 - 1, math.MaxInt64,
		-1, -2, -3, -7, -255, -256, -65536, -1 << 31, -1<<31 + 3, -1 << 32, -1<<32 + 1, -1<<48 + 3, -1 << 62, -1<<62 + 1, math.MinInt64 + 1, math.MinInt64,
	}
}

// P16.1: lines.

func TestLinesThatAreRefused(t *testing.T) {
	var lines []api.Line
	for _, n := range append(far(), round, round+1, 2*round) {
		lines = append(lines, api.Line{First: n, Room: 99}, api.Line{First: n, Room: widest}, api.Line{First: n}, api.Line{First: n, Room: n})
	}
	for _, n := range append(far(), 0, widest+1, widest+2, 65535, 65536) {
		lines = append(lines, api.Line{Room: n}, api.Line{First: round - 1, Room: n}, api.Line{First: 7, Room: n})
	}
	for _, c := range lines {
		for _, l := range [][]api.Step{nil, {}, {work}, {{Kind: 9}}, {call(mkdir("/d")), send(0)}, slices.Repeat([]api.Step{work}, events), slices.Repeat([]api.Step{work}, events+1), make([]api.Step, 65536)} {
			isNothing(t, c, l, errRange)
		}
	}
}

func TestLinesThatMayBe(t *testing.T) {
	for _, first := range []int{0, 1, 7, 32767, 32768, 65500, round - 1} {
		for _, room := range []int{64, 65, 99, 100, widest - 1, widest} {
			isPlay(t, api.Line{First: first, Room: room}, once()...)
		}
		isPlay(t, api.Line{First: first, Room: 1},
			pair{call(mkdir("/d")), made(1)}, pair{send(0), put(0, 13)}, pair{send(0), refused(errNone)}, pair{carry(0, 0), put(1, 0)}, pair{work, worked(0, 2)}, pair{bring(0, 2), left(12)}, pair{send(0), put(3, 12)})
	}
}

// once: a request that is made, served and heard of.
func once() []pair {
	return []pair{
		{call(mkdir("/d")), made(1)}, {send(0), put(0, 13)}, {carry(0, 0), put(1, 0)}, {work, worked(1, 2)}, {bring(0, 2), left(0)},
		{send(1), put(0, replied)}, {carry(1, 0), put(1, 0)}, {hear, heard(2, done(1))}, {bring(1, 2), left(0)},
	}
}

// TestBothLinesAreAsIsSaid: what is sent at first is no more than Room, on each way.
func TestBothLinesAreAsIsSaid(t *testing.T) {
	for _, room := range []int{1, 2, 5, 9, 12} {
		c := api.Line{First: 65530, Room: room}
		var l []pair
		sent := func(way, all int) { // it is sent in pieces, each of which comes, is drained, and is heard of
			id := 0
			for at := 0; at < all; at += room {
				drained := pair{work, worked(0, id+2)}
				if way == 1 {
					drained = pair{hear, heard(id + 2)}
				}
				if at+room >= all {
					drained.want.Count = 1 - way
					drained.want.Replies = []api.Reply{done(1)}[:way]
				}
				l = append(l, pair{send(way), put(id, all-at)})
				if at+room < all {
					l = append(l, pair{send(way), refused(errNone)})
				}
				l = append(l, pair{carry(way, id), put(id+1, 0)}, drained, pair{bring(way, id+2), left(max(0, all-at-room))})
				id += 3
			}
		}
		l = append(l, pair{call(mkdir("/d")), made(1)})
		sent(0, 13)
		sent(1, replied)
		isPlay(t, c, l...)
	}
}

// P16.1: how many steps may be.

func TestNoStepAtAll(t *testing.T) {
	for _, l := range [][]api.Step{nil, {}, make([]api.Step, 0, 9)} {
		isList(t, plain, l, nil)
	}
}

func TestAsManyStepsAsMayBeAndOneMore(t *testing.T) {
	for _, s := range []api.Step{work, hear, expire(0), send(1), call(mkdir("/d")), {}, {Kind: 9}, pass(2, api.Hop{})} {
		for _, n := range []int{events - 1, events} {
			if got, code := talk.Play(plain, slices.Repeat([]api.Step{s}, n)); code != ok || len(got) != n {
				t.Fatalf("%d of %s: %d told, %d", n, sketch(s), len(got), code)
			}
		}
		for _, n := range []int{events + 1, events + 2, 2 * events, 65536, 65537} {
			isNothing(t, plain, slices.Repeat([]api.Step{s}, n), errSize)
		}
	}
}

// TestStepsToTheLast: the last one that may be is granted like all others.
func TestStepsToTheLast(t *testing.T) {
	var l []pair
	for n := range events - len(once()) {
		l = append(l, pair{api.Step{Kind: -n}, refused(errKind)})
	}
	l = join(l, once())
	if len(l) != events {
		t.Fatal(len(l))
	}
	isPlay(t, plain, l...)
	l = []pair{}
	for n := range events { // each Work, and each Hear, puts a frame
		l = append(l, pair{work, worked(0, n/2)})
		if n%2 == 1 {
			l[n] = pair{hear, heard(n / 2)}
		}
	}
	isPlay(t, plain, l...)
}

// P16.1: kinds of steps.

func TestNoSuchKind(t *testing.T) {
	var l []pair
	for _, kind := range append(far(), 0, 5, 6, 8, 9, 255, 256, 256+kindCallOut, 256+kindWork, 65536+kindHear) {
		for _, s := range []api.Step{{}, call(mkdir("/d")), send(0), expire(1), pass(2, api.Hop{}), {Way: -1, Hop: api.Hop{Kind: 99}}, call(api.Request{})} {
			s.Kind = kind
			l = append(l, pair{s, refused(errKind)})
		}
	}
	for k := range slices.Chunk(l, events-len(once())) {
		isPlay(t, plain, join(k[:len(k)/2], once(), k[len(k)/2:])...)
	}
}

func TestExample(t *testing.T) {
	isPlay(t, api.Line{Room: 99},
		pair{call(mkdir("/d")), made(1)},
		pair{call(list("/")), made(2)},
		pair{send(0), put(0, 25)},
		pair{carry(0, 0), put(1, 0)},
		pair{carry(0, 0), put(2, 0)},
		pair{work, worked(2, 3)},
		pair{work, worked(0, 4)},
		pair{send(1), put(0, 45)},
		pair{carry(1, 0), put(1, 0)},
		pair{hear, heard(2, done(1), names(2, "d"))},
		pair{hear, heard(3)},
		pair{pass(2, api.Hop{Kind: hopSend}), refused(errRange)},
		pair{pass(0, api.Hop{Kind: hopGive}), refused(errKind)},
		pair{call(api.Request{}), refused(errKind)},
		pair{api.Step{Kind: 9}, refused(errKind)},
	)
}

// TestADirectoryIsMadeOnce: the frame of the request comes five times, twice harmed.
func TestADirectoryIsMadeOnce(t *testing.T) {
	isPlay(t, plain,
		pair{call(mkdir("/d")), made(1)},
		pair{send(0), put(0, 13)},
		pair{expire(0), left(13)},
		pair{send(0), put(1, 13)},
		pair{hit(0, 1, 12, 4), api.Talked{}},
		pair{carry(0, 1), refused(errSum)},
		pair{carry(0, 0), put(2, 0)},
		pair{carry(0, 1), refused(errSum)},
		pair{work, worked(1, 3)},
		pair{carry(0, 0), put(4, 0)},
		pair{work, worked(0, 5)},
		pair{carry(0, 0), put(6, 0)},
		pair{work, worked(0, 7)},
		pair{send(1), put(0, replied)},
		pair{send(1), refused(errNone)},
		pair{carry(1, 0), put(1, 0)},
		pair{hear, heard(2, done(1))},
		pair{carry(1, 0), put(3, 0)},
		pair{hear, heard(4)},
	)
}
