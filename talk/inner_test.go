package talk

import (
	"bytes"
	"fmt"
	"slices"
	"testing"

	"packthread/api"
	"packthread/msg"
)

// These tests look at the bytes that are given to the ways, and lay bytes there that neither who asks nor who serves would give: the tests through Play can do neither.

// start: a talk in which nothing happened.
func start(t *testing.T) *talk {
	t.Helper()
	x, code := newTalk(api.Line{First: 65530, Room: 4096})
	if code != api.OK {
		t.Fatal(code)
	}
	return x
}

// is: what one more step comes to.
func is(t *testing.T, x *talk, s api.Step, want api.Talked) {
	t.Helper()
	if got := x.do(s); fmt.Sprint(got) != fmt.Sprint(want) {
		t.Fatalf("%+v: %+v, want %+v", s, got, want)
	}
}

var (
	workOn = api.Step{Kind: api.Work}
	hearOn = api.Step{Kind: api.Hear}
)

func call(r api.Request) api.Step { return api.Step{Kind: api.CallOut, Request: r} }

func mkdir(path string) api.Request { return api.Request{Kind: api.NewDir, Path: path} }

// come: all that was given to a way comes.
func come(t *testing.T, w *way) {
	t.Helper()
	for {
		x := w.line.Pass(api.Hop{Kind: api.Send})
		if !x.Put {
			return
		}
		if y := w.line.Pass(api.Hop{Kind: api.Carry, Id: x.Id}); y.Code != api.OK {
			t.Fatal(y)
		}
	}
}

// lay: these bytes, which need be no frame, are given to a way, and come.
func lay(t *testing.T, w *way, b ...byte) {
	t.Helper()
	if x := w.line.Pass(api.Hop{Kind: api.Give, Data: b}); x.Code != api.OK {
		t.Fatal(x)
	}
	come(t, w)
}

// framed: b with its length ahead.
func framed(b ...byte) []byte { return append([]byte{0, 0, byte(len(b) >> 8), byte(len(b))}, b...) }

// bytesOf: what comes of a way now.
func bytesOf(t *testing.T, w *way) []byte {
	t.Helper()
	come(t, w)
	return w.line.Pass(api.Hop{Kind: api.Drain, Count: 4096}).Data
}

// nextId: the number that the frame of the next drain will have.
func nextId(w *way) int {
	return w.line.Pass(api.Hop{Kind: api.Drain}).Id + 1
}

func isBytes(t *testing.T, got, want []byte) {
	t.Helper()
	if !bytes.Equal(got, want) {
		t.Fatalf("% x, want % x", got, want)
	}
}

// P16.1: CallOut.

func TestBytesOfACallOut(t *testing.T) {
	x := start(t)
	is(t, x, call(api.Request{Kind: api.NewDir, Mark: 99, Path: "/d"}), api.Talked{Id: 1})
	isBytes(t, bytesOf(t, &x.ways[0]), []byte{0, 0, 0, 9, 7, 0, 0, 0, 1, 0, 2, '/', 'd'})
	is(t, x, call(api.Request{Kind: api.WriteAt, Handle: 8, At: 258, Data: []byte{5, 6}}), api.Talked{Id: 2})
	is(t, x, call(api.Request{Kind: api.Shutdown, Handle: 3}), api.Talked{Id: 3})
	isBytes(t, bytesOf(t, &x.ways[0]), []byte{0, 0, 0, 17, 4, 0, 0, 0, 2, 0, 0, 0, 8, 0, 0, 1, 2, 0, 2, 5, 6, 0, 0, 0, 9, 2, 0, 0, 0, 3, 0, 0, 0, 3})
	isBytes(t, bytesOf(t, &x.ways[1]), nil)
}

// TestWhatAGiveRefuses: it takes no Mark, and nothing is out; what Ask refuses is told first.
func TestWhatAGiveRefuses(t *testing.T) {
	x := start(t)
	is(t, x, call(mkdir("/d")), api.Talked{Id: 1})
	x.ways[there].line.Pass(api.Hop{Kind: api.Shut})
	for range 9 {
		is(t, x, call(mkdir("/e")), api.Talked{Code: api.ErrState})
		is(t, x, call(api.Request{}), api.Talked{Code: api.ErrKind})
	}
	come(t, &x.ways[0])
	is(t, x, workOn, api.Talked{Put: true, Id: nextId(&x.ways[0]), Count: 1})
	if len(x.out) != 1 || x.last != 1 {
		t.Fatalf("%v are out; the last one was %d", x.out, x.last)
	}
}

// TestALineThatIsFull: but for two requests of 13 and of 12 bytes.
func TestALineThatIsFull(t *testing.T) {
	x := start(t)
	for n := api.MaxPos - 1 - 13 - 12; n > 0; n -= api.MaxBytes {
		h := api.Hop{Kind: api.Give, Data: make([]byte, min(n, api.MaxBytes))}
		if got := x.ways[there].line.Pass(h); got.Code != api.OK {
			t.Fatal(got)
		}
	}
	is(t, x, call(mkdir("/d")), api.Talked{Id: 1})
	is(t, x, call(mkdir("/d")), api.Talked{Code: api.ErrFull})
	is(t, x, call(api.Request{Kind: 99}), api.Talked{Code: api.ErrKind})
	is(t, x, call(mkdir("/")), api.Talked{Id: 2})
	is(t, x, call(mkdir("")), api.Talked{Code: api.ErrFull})
}

// P16.1: Work.

// TestBytesOfReplies: that of a request which Asked refuses has its Code, and nothing else.
func TestBytesOfReplies(t *testing.T) {
	for _, c := range []struct {
		b    []byte
		code api.Errno
	}{
		{nil, api.ErrShort}, {[]byte{7}, api.ErrShort}, {[]byte{7, 0, 0, 0}, api.ErrShort}, {[]byte{11, 0, 0, 0}, api.ErrShort}, {[]byte{11, 0, 0, 0, 1}, api.ErrKind}, {[]byte{0, 0, 0, 0, 1, 9}, api.ErrKind},
		{[]byte{7, 0, 0, 0, 1}, api.ErrShort}, {[]byte{7, 0, 0, 0, 1, 0, 2, '/'}, api.ErrShort}, {[]byte{7, 0, 0, 0, 1, 0, 2, '/', 'x', 0}, api.ErrForm}, {bytes.Repeat([]byte{7}, 1024), api.ErrShort},
	} {
		x := start(t)
		lay(t, &x.ways[0], framed(c.b...)...)
		is(t, x, workOn, api.Talked{Put: true, Id: nextId(&x.ways[0]), Count: 1})
		isBytes(t, bytesOf(t, &x.ways[1]), []byte{0, 0, 0, 17, 0, 0, 0, 0, byte(c.code), 0, 0, 0, 0, 0, 0, 0, 0, 0, 0, 0, 0})
		is(t, x, call(mkdir("/d")), api.Talked{Id: 1})
		lay(t, &x.ways[0], framed(c.b...)...)
		is(t, x, call(api.Request{Kind: api.Names, Path: "/"}), api.Talked{Id: 2})
		come(t, &x.ways[0])
		is(t, x, workOn, api.Talked{Put: true, Id: nextId(&x.ways[0]), Count: 3})
		come(t, &x.ways[1])
		is(t, x, hearOn, api.Talked{Put: true, Id: nextId(&x.ways[1]), Replies: []api.Reply{{Mark: 1}, {Mark: 2, Names: []string{"d"}}}})
	}
}

// TestRequestsWithAnyMark: who serves looks at no Mark.
func TestRequestsWithAnyMark(t *testing.T) {
	x := start(t)
	lay(t, &x.ways[0], framed(7, 1, 2, 3, 4, 0, 2, '/', 'd')...)
	lay(t, &x.ways[0], framed(7, 1, 2, 3, 4, 0, 2, '/', 'd')...)
	is(t, x, workOn, api.Talked{Put: true, Id: nextId(&x.ways[0]), Count: 2})
	isBytes(t, bytesOf(t, &x.ways[1]), []byte{
		0, 0, 0, 17, 1, 2, 3, 4, 0, 0, 0, 0, 0, 0, 0, 0, 0, 0, 0, 0, 0,
		0, 0, 0, 17, 1, 2, 3, 4, byte(api.ErrTwice), 0, 0, 0, 0, 0, 0, 0, 0, 0, 0, 0, 0,
	})
}

// tooLong: what Feed refuses: lengths of frames that are above the greatest one.
func tooLong() [][]byte {
	return [][]byte{{0, 0, 4, 1}, {0, 0, 5, 0}, {0, 1, 0, 0}, {1, 0, 0, 0}, {255, 255, 255, 255, 7}, {0, 0, 4, 1, 0, 0, 0, 0}, append([]byte{0, 0, 4, 1}, make([]byte, 1025)...)}
}

// TestWorkThatFeedRefuses: nothing is served of it, what was whole neither, and nothing is held any more.
func TestWorkThatFeedRefuses(t *testing.T) {
	good := framed(7, 0, 0, 0, 1, 0, 2, '/', 'd')
	for _, b := range tooLong() {
		for cut := range min(len(b), 4) {
			x := start(t)
			lay(t, &x.ways[0], b[:cut]...) // no four bytes of a length are held
			is(t, x, workOn, api.Talked{Put: true, Id: nextId(&x.ways[0])})
			lay(t, &x.ways[0], slices.Concat(b[cut:], good)...)
			is(t, x, workOn, api.Talked{Code: api.ErrSize})
			isBytes(t, bytesOf(t, &x.ways[1]), nil)
			is(t, x, workOn, api.Talked{Put: true, Id: nextId(&x.ways[0])})
			lay(t, &x.ways[0], slices.Concat(good, good[:7])...)
			is(t, x, workOn, api.Talked{Put: true, Id: nextId(&x.ways[0]), Count: 1})
			lay(t, &x.ways[0], slices.Concat(good[7:], b)...) // whole ones stand ahead of it
			is(t, x, workOn, api.Talked{Code: api.ErrSize})
			lay(t, &x.ways[0], good...)
			is(t, x, workOn, api.Talked{Put: true, Id: nextId(&x.ways[0]), Count: 1})
			reply := append([]byte{0, 0, 0, 17, 0, 0, 0, 1}, make([]byte, 13)...)
			twice := bytes.Clone(reply)
			twice[8] = byte(api.ErrTwice)
			isBytes(t, bytesOf(t, &x.ways[1]), append(reply, twice...)) // the one in between was not served
		}
	}
}

// P16.1: Hear.

// answerOf: the frame of a reply's bytes.
func answerOf(t *testing.T, r api.Reply) []byte {
	t.Helper()
	b, code := msg.Answer(r)
	if code != api.OK {
		t.Fatal(code)
	}
	return framed(b...)
}

// asking: three requests are out, and did not come yet.
func asking(t *testing.T) *talk {
	t.Helper()
	x := start(t)
	for n := range 3 {
		is(t, x, call(mkdir("/d")), api.Talked{Id: n + 1})
	}
	return x
}

// told: one more Hear tells these replies.
func told(t *testing.T, x *talk, l ...api.Reply) {
	t.Helper()
	is(t, x, hearOn, api.Talked{Put: true, Id: nextId(&x.ways[1]), Replies: l})
}

func TestBytesThatAreNoReply(t *testing.T) {
	good := answerOf(t, api.Reply{Mark: 2, Code: 5, Data: []byte("x"), Names: []string{"a"}})[4:]
	for _, b := range [][]byte{nil, {0}, {0, 0, 0, 2}, good[:len(good)-1], append(bytes.Clone(good), 0), {7, 0, 0, 0, 2, 0, 2, '/', 'd'}, make([]byte, 1024)} {
		x := asking(t)
		lay(t, &x.ways[1], framed(b...)...)
		told(t, x)
		lay(t, &x.ways[1], slices.Concat(framed(b...), framed(good...), framed(b...))...)
		told(t, x, api.Reply{Mark: 2, Code: 5, Data: []byte("x"), Names: []string{"a"}})
		told(t, x)
	}
}

// TestMarksOfNoRequestThatIsOut: below, above, and heard already: one by one, and in one Hear.
func TestMarksOfNoRequestThatIsOut(t *testing.T) {
	x := asking(t)
	for _, mark := range []int{0, 4, 5, 256, 256 + 1, 65536 + 2, 1<<32 - 1} {
		lay(t, &x.ways[1], answerOf(t, api.Reply{Mark: mark})...)
		told(t, x)
	}
	two, three := answerOf(t, api.Reply{Mark: 2}), answerOf(t, api.Reply{Mark: 3, Code: 9})
	lay(t, &x.ways[1], two...)
	told(t, x, api.Reply{Mark: 2})
	lay(t, &x.ways[1], two...)
	told(t, x)
	lay(t, &x.ways[1], slices.Concat(three, two, three, answerOf(t, api.Reply{Mark: 1}), three)...)
	told(t, x, api.Reply{Mark: 3, Code: 9}, api.Reply{Mark: 1}) // in whatever order they come
	for n := range api.MaxFlight {
		is(t, x, call(mkdir("/d")), api.Talked{Id: 4 + n})
	}
	is(t, x, call(mkdir("/d")), api.Talked{Code: api.ErrFull})
	lay(t, &x.ways[1], slices.Concat(two, three, answerOf(t, api.Reply{Mark: 10}))...)
	told(t, x)
	is(t, x, call(mkdir("/d")), api.Talked{Code: api.ErrFull}) // what is dropped makes no room
	lay(t, &x.ways[1], answerOf(t, api.Reply{Mark: 9})...)
	told(t, x, api.Reply{Mark: 9})
	is(t, x, call(mkdir("/d")), api.Talked{Id: 10})
}

// TestHearThatFeedRefuses: as of Work.
func TestHearThatFeedRefuses(t *testing.T) {
	one, two := answerOf(t, api.Reply{Mark: 1}), answerOf(t, api.Reply{Mark: 2})
	for _, b := range tooLong() {
		x := asking(t)
		lay(t, &x.ways[1], b[:3]...)
		told(t, x)
		lay(t, &x.ways[1], slices.Concat(b[3:], one)...)
		is(t, x, hearOn, api.Talked{Code: api.ErrSize})
		told(t, x)
		lay(t, &x.ways[1], two[:5]...)
		told(t, x)
		lay(t, &x.ways[1], slices.Concat(two[5:], b)...)
		is(t, x, hearOn, api.Talked{Code: api.ErrSize})
		lay(t, &x.ways[1], slices.Concat(one, two)...)
		told(t, x, api.Reply{Mark: 1}, api.Reply{Mark: 2}) // both are out still
	}
}

// TestFramesWithTheMostBytes: of which none is a request, or a reply.
func TestFramesWithTheMostBytes(t *testing.T) {
	x := asking(t)
	is(t, x, workOn, api.Talked{Put: true})
	lay(t, &x.ways[0], framed(make([]byte, 1024)...)...)
	is(t, x, workOn, api.Talked{Put: true, Id: nextId(&x.ways[0]), Count: 4})
	lay(t, &x.ways[1], framed(make([]byte, 1024)...)...)
	told(t, x, api.Reply{Mark: 1}, api.Reply{Mark: 2, Code: api.ErrTwice}, api.Reply{Mark: 3, Code: api.ErrTwice})
}

// TestAllThatThereIsRoomForComesAtOnce: so much is drained.
func TestAllThatThereIsRoomForComesAtOnce(t *testing.T) {
	x := asking(t)
	f := framed(make([]byte, 1020)...)
	two := answerOf(t, api.Reply{Mark: 2})
	lay(t, &x.ways[1], slices.Concat(bytes.Repeat(f, 3), framed(make([]byte, 1020-len(two))...), two)...) // 4096 bytes in all
	told(t, x, api.Reply{Mark: 2})
	x = start(t)
	lay(t, &x.ways[0], bytes.Repeat(f, 4)...)
	is(t, x, workOn, api.Talked{Put: true, Id: nextId(&x.ways[0]), Count: 4})
}
