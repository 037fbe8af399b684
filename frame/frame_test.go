package frame_test

import (
	"bytes"
	"fmt"
	"slices"
	"strings"
	"sync"
	"testing"

	"packthread/api"
	"packthread/frame"
)

// The numbers that the tests count on, written out: they must not move with the program.
const (
	most    = 1024 // bytes of a frame
	mayHeld = 1027 // bytes that are held
)

// short: a list of bytes as text; of a long one its first ones and its length.
func short(b []byte) string {
	if len(b) > 20 {
		return fmt.Sprint(b[:20], "..", len(b))
	}
	return fmt.Sprint(b)
}

// shorts: lists of bytes as text, some of them.
func shorts(l [][]byte) string {
	var s []string
	for _, b := range l[:min(len(l), 9)] {
		s = append(s, short(b))
	}
	return fmt.Sprint(len(l), ": ", strings.Join(s, " "))
}

func isWrap(t *testing.T, b, want []byte, code api.Errno) {
	if got, e := frame.Wrap(b); !bytes.Equal(got, want) || e != code {
		t.Helper()
		t.Fatalf("Wrap(%s): %s %d, want %s %d", short(b), short(got), e, short(want), code)
	}
}

func isFeed(t *testing.T, held, b []byte, want [][]byte, rest []byte) {
	if got, kept, e := frame.Feed(held, b); !slices.EqualFunc(got, want, bytes.Equal) || !bytes.Equal(kept, rest) || e != api.OK {
		t.Helper()
		t.Fatalf("Feed(%s, %s): %s, %s %d, want %s, %s", short(held), short(b), shorts(got), short(kept), e, shorts(want), short(rest))
	}
}

// isRefused: with the error there are no frames, and nothing is held.
func isRefused(t *testing.T, held, b []byte, code api.Errno) {
	if got, kept, e := frame.Feed(held, b); len(got) != 0 || len(kept) != 0 || e != code {
		t.Helper()
		t.Fatalf("Feed(%s, %s): %s, %s %d, want %d", short(held), short(b), shorts(got), short(kept), e, code)
	}
}

// isCut: what comes out, wherever a stream that may be held is cut in two.
func isCut(t *testing.T, stream []byte, want [][]byte, rest []byte) {
	t.Helper()
	for at := range min(len(stream), mayHeld) + 1 {
		isFeed(t, stream[:at], stream[at:], want, rest)
	}
}

// data: n bytes that look like chance, the same ones each time.
func data(n, seed int) []byte {
	b := make([]byte, n)
	x := uint32(seed)*2654435761 + 1
	for i := range b {
		x = x*1664525 + 1013904223
		b[i] = byte(x >> 24)
	}
	return b
}

// laid: the bytes of frames that have these, told without the program.
func laid(l ...[]byte) []byte {
	var out []byte
	for _, b := range l {
		out = append(out, 0, 0, byte(len(b)/256), byte(len(b)%256))
		out = append(out, b...)
	}
	return out
}

// join: pieces of a stream, one behind another, in new memory.
func join(l ...[]byte) []byte {
	return bytes.Join(l, nil)
}

// roomy: the same bytes, with others in spare room behind them.
func roomy(b []byte) []byte {
	return append(bytes.Clone(b), 201, 202, 203, 204, 205, 206)[:len(b)]
}

// tooLong: lengths that no frame has, as bytes, some of which look like one when bits are cut off, or are taken for a number below 0.
func tooLong() [][]byte {
	l := [][]byte{
		{0, 0, 4, 1}, {0, 0, 4, 2}, {0, 0, 4, 255}, {0, 0, 5, 0}, {0, 0, 8, 0}, {0, 0, 128, 0}, {0, 0, 255, 255},
		{0, 1, 0, 0}, {0, 1, 0, 1}, {0, 1, 4, 0}, {0, 128, 0, 0}, {0, 255, 255, 255},
		{1, 0, 0, 0}, {1, 0, 0, 1}, {1, 0, 4, 0}, {127, 255, 255, 255},
		{128, 0, 0, 0}, {128, 0, 0, 1}, {128, 0, 4, 0}, {255, 255, 255, 252}, {255, 255, 255, 255},
		{1, 4, 0, 0}, {2, 0, 0, 0}, {0, 4, 0, 0}, // one of MaxFrame or less from the other end
	}
	for bit := range 32 {
		if n := uint32(1) << bit; n > most {
			l = append(l, []byte{byte(n >> 24), byte(n >> 16), byte(n >> 8), byte(n)})
		}
	}
	return l
}

// P10.1: Wrap.

func TestWrapOfNothing(t *testing.T) {
	isWrap(t, nil, []byte{0, 0, 0, 0}, api.OK)
	isWrap(t, []byte{}, []byte{0, 0, 0, 0}, api.OK)
	isWrap(t, []byte{9, 9}[:0], []byte{0, 0, 0, 0}, api.OK)
}

func TestWrapOfOneByte(t *testing.T) {
	for v := range 256 {
		isWrap(t, []byte{byte(v)}, []byte{0, 0, 0, 1, byte(v)}, api.OK)
	}
}

func TestWrapOfEachLength(t *testing.T) {
	for n := range most + 1 {
		b := data(n, n)
		isWrap(t, b, join([]byte{0, 0, byte(n / 256), byte(n % 256)}, b), api.OK)
	}
}

func TestWrapTellsTheHighestByteFirst(t *testing.T) {
	for n, want := range map[int][4]byte{2: {0, 0, 0, 2}, 255: {0, 0, 0, 255}, 256: {0, 0, 1, 0}, 258: {0, 0, 1, 2}, 1023: {0, 0, 3, 255}, most: {0, 0, 4, 0}} {
		got, code := frame.Wrap(make([]byte, n))
		if code != api.OK || len(got) != n+4 || [4]byte(got) != want {
			t.Errorf("Wrap of %d bytes: %s %d, want %v", n, short(got), code, want)
		}
	}
}

func TestWrapOfTooMany(t *testing.T) {
	for _, n := range []int{most + 1, most + 2, mayHeld, mayHeld + 1, 2 * most, 4096, 65535, 65536, 65537, 65536 + most, 1 << 20, 1<<24 + 5} {
		isWrap(t, make([]byte, n), nil, api.ErrSize)
		isWrap(t, data(n, n), nil, api.ErrSize)
	}
	isWrap(t, make([]byte, most, 2*most), laid(make([]byte, most)), api.OK) // spare room does not count
}

// P10.2: Feed, without an error.

func TestFeedOfNothing(t *testing.T) {
	empty := [][]byte{nil, {}, make([]byte, 0, 8)}
	for _, held := range empty {
		for _, b := range empty {
			isFeed(t, held, b, nil, nil)
		}
	}
}

func TestFeedOfNothingNew(t *testing.T) {
	stream := laid(data(40, 1))
	for n := range len(stream) {
		isFeed(t, stream[:n], nil, nil, stream[:n])
		isFeed(t, stream[:n], []byte{}, nil, stream[:n])
		isFeed(t, nil, stream[:n], nil, stream[:n])
	}
	isFeed(t, stream, nil, [][]byte{stream[4:]}, nil) // what is held may be whole
	isFeed(t, laid([]byte{1}, nil, []byte{2, 3}), nil, [][]byte{{1}, {}, {2, 3}}, nil)
}

func TestFeedOfOneFrame(t *testing.T) {
	for n := range most + 1 {
		b := data(n, n+5)
		isFeed(t, nil, laid(b), [][]byte{b}, nil)
	}
}

func TestFeedOfWhatWrapMade(t *testing.T) {
	for _, n := range []int{0, 1, 2, 3, 4, 5, 255, 256, 257, 1023, most} {
		b := data(n, n)
		wrapped, _ := frame.Wrap(b)
		isFeed(t, nil, wrapped, [][]byte{b}, nil)
		twice := join(wrapped, wrapped, []byte{0})
		isFeed(t, nil, twice, [][]byte{b, b}, []byte{0})
	}
}

func TestFeedOfSeveralFrames(t *testing.T) {
	l := [][]byte{{97}, {}, {98, 99}, data(300, 1), {}, {}, {0, 0, 0, 1}, data(most, 2), {255, 255, 255, 255, 255}, data(256, 3)}
	isFeed(t, nil, laid(l...), l, nil)
	for n := range len(l) + 1 {
		isFeed(t, nil, laid(l[:n]...), l[:n], nil)
		for _, rest := range [][]byte{{0}, {0, 0}, {0, 0, 4}, {255, 255, 255}, {0, 0, 0, 1}, {0, 0, 0, 2, 7}, {0, 0, 4, 0, 5, 6}} {
			isFeed(t, nil, join(laid(l[:n]...), rest), l[:n], rest)
		}
	}
}

func TestFeedOfFramesInTheirOrder(t *testing.T) {
	var l [][]byte
	for i := range 100 {
		l = append(l, []byte{byte(i)})
	}
	isCut(t, laid(l...), l, nil)
	slices.Reverse(l)
	isCut(t, laid(l...), l, nil)
}

func TestFeedOfAFrameCutInTwo(t *testing.T) {
	for _, n := range []int{0, 1, 2, 3, 4, 5, 100, 255, 256, 257, 1022, 1023, most} { // in its length, and in its bytes
		b := data(n, n)
		isCut(t, laid(b), [][]byte{b}, nil)
		isCut(t, join(laid(b), []byte{0, 0, 1}), [][]byte{b}, []byte{0, 0, 1})
		isCut(t, laid(b, []byte{8}, b), [][]byte{b, {8}, b}, nil)
	}
}

// feedAll: the frames of a stream that comes in these pieces, and what is held at the end.
func feedAll(t *testing.T, pieces ...[]byte) (l [][]byte, held []byte) {
	t.Helper()
	for _, b := range pieces {
		got, kept, code := frame.Feed(held, b)
		if code != api.OK {
			t.Fatalf("Feed(%s, %s): %d", short(held), short(b), code)
		}
		if len(kept) > mayHeld {
			t.Fatalf("Feed(%s, %s): %d bytes are held", short(held), short(b), len(kept))
		}
		l, held = append(l, got...), kept
	}
	return l, held
}

func TestFeedOfAFrameInManyPieces(t *testing.T) {
	for _, n := range []int{0, 1, 2, 5, 255, 256, 257, 1023, most} {
		b := data(n, n)
		stream := laid(b)
		for size := 1; size <= 9; size++ {
			l, held := feedAll(t, slices.Collect(slices.Chunk(stream, size))...)
			if len(l) != 1 || !bytes.Equal(l[0], b) || len(held) != 0 {
				t.Fatalf("a frame of %d bytes, %d at a time: %s, %s", n, size, shorts(l), short(held))
			}
		}
	}
}

func TestFeedTellsAFrameWithItsLastByte(t *testing.T) {
	for _, n := range []int{0, 1, 2, 255, 256, 1023, most} {
		b := data(n, n)
		stream := laid(b)
		var held []byte
		for i := range len(stream) - 1 {
			isFeed(t, held, stream[i:i+1], nil, stream[:i+1])
			held = stream[:i+1]
		}
		isFeed(t, held, nil, nil, held)
		isFeed(t, held, stream[len(held):], [][]byte{b}, nil)
	}
}

func TestFeedOfFramesWithoutBytes(t *testing.T) {
	isFeed(t, nil, make([]byte, 4), [][]byte{{}}, nil)
	isFeed(t, make([]byte, 4), nil, [][]byte{{}}, nil)
	for _, n := range []int{5, 7, 8, 11, 12, 400, 1024, 1026, mayHeld, 5000} {
		isCut(t, make([]byte, n), make([][]byte, n/4), make([]byte, n%4))
	}
	isFeed(t, make([]byte, mayHeld), make([]byte, 1<<20-mayHeld), make([][]byte, 1<<18), nil)
}

func TestFeedOfTheGreatestLength(t *testing.T) {
	b := data(most, 77)
	stream := laid(b)
	for n := 4; n <= mayHeld; n++ {
		isFeed(t, nil, stream[:n], nil, stream[:n])
		isFeed(t, stream[:n], nil, nil, stream[:n])
		isFeed(t, stream[:n], stream[n:], [][]byte{b}, nil)
	}
	isFeed(t, stream[:mayHeld], join(stream[mayHeld:], stream, stream[:mayHeld]), [][]byte{b, b}, stream[:mayHeld])
}

func TestLengthsWithinAFrameAreNone(t *testing.T) {
	for _, bad := range tooLong() {
		b := bytes.Repeat(bad, 3)
		isCut(t, laid(b, nil, b), [][]byte{b, {}, b}, nil)
		whole := laid(b, b)
		isCut(t, whole[:len(whole)-1], [][]byte{b}, laid(b)[:15])
	}
}

func TestFeedOfAllShortStreams(t *testing.T) {
	values := []byte{0, 1, 2, 4, 255}
	for n := range 8 {
		stream := make([]byte, n)
		for more := true; more; more = advance(stream, values) {
			l, rest, good := read(stream)
			for at := range n + 1 {
				if good {
					isFeed(t, stream[:at], stream[at:], l, rest)
				} else {
					isRefused(t, stream[:at], stream[at:], api.ErrSize)
				}
			}
		}
	}
}

// advance: b becomes the next list of these values; false: there is none.
func advance(b, values []byte) bool {
	for i := range b {
		at := bytes.IndexByte(values, b[i])
		if at+1 < len(values) || at < 0 {
			b[i] = values[at+1]
			return true
		}
		b[i] = values[0]
	}
	return false
}

// read: the frames of a stream and what is behind them, told byte by byte; false: there is a length that no frame has.
func read(stream []byte) (l [][]byte, rest []byte, good bool) {
	size := 0
	for _, v := range stream {
		rest = append(rest, v)
		if len(rest) <= 4 {
			size = 256*size + int(v)
		}
		if len(rest) == 4 && size > most {
			return nil, nil, false
		}
		if len(rest) >= 4 && len(rest) == 4+size {
			l = append(l, rest[4:])
			rest, size = nil, 0
		}
	}
	return l, rest, true
}

// P10.2: the errors of Feed.

func TestFeedOfALengthThatIsTooGreat(t *testing.T) {
	for _, bad := range tooLong() {
		for at := range 5 { // all four bytes of it are there, and nothing behind it
			isRefused(t, bad[:at], bad[at:], api.ErrSize)
		}
		for _, more := range [][]byte{{0}, {1, 2, 3}, make([]byte, 1020), make([]byte, 2000), data(70000, 3)} {
			isRefused(t, nil, join(bad, more), api.ErrSize)
			isRefused(t, bad, more, api.ErrSize)
			isRefused(t, bad[:3], join(bad[3:], more), api.ErrSize)
			isRefused(t, bad[:1], join(bad[1:], more), api.ErrSize)
		}
	}
}

func TestFeedOfAllLengths(t *testing.T) {
	for n := range 65536 {
		b := []byte{0, 0, byte(n / 256), byte(n % 256)}
		switch {
		case n == 0:
			isFeed(t, nil, b, [][]byte{{}}, nil)
		case n <= most:
			isFeed(t, nil, b, nil, b)
		default:
			isRefused(t, nil, b, api.ErrSize)
		}
	}
}

func TestFeedOfThreeBytesOfALengthThatIsTooGreat(t *testing.T) {
	for _, bad := range tooLong() {
		for n := range 4 {
			isCut(t, bad[:n], nil, bad[:n])
			isCut(t, join(laid([]byte{5}, nil), bad[:n]), [][]byte{{5}, {}}, bad[:n])
		}
	}
}

func TestFeedOfALengthThatIsTooGreatBehindWholeFrames(t *testing.T) {
	lists := [][][]byte{{{}}, {{1}}, {{1}, {}, {2, 3}}, {data(900, 1)}, {data(most, 2)}, {data(most, 3), {}, data(700, 4)}}
	for _, l := range lists {
		good := laid(l...)
		for _, bad := range tooLong() {
			stream := join(good, bad)
			for at := max(0, len(good)-5); at <= min(len(stream), mayHeld); at++ {
				isRefused(t, stream[:at], stream[at:], api.ErrSize)
			}
			isRefused(t, nil, stream, api.ErrSize)
			isRefused(t, nil, join(stream, laid([]byte{4})), api.ErrSize)
			isFeed(t, nil, stream[:len(stream)-1], l, bad[:3])
			isRefused(t, bad[:3], bad[3:], api.ErrSize)
		}
	}
}

func TestFeedOfALengthThatIsTooGreatBehindAFrameThatIsNotWhole(t *testing.T) {
	for _, bad := range tooLong() {
		stream := join([]byte{0, 0, 0, 5}, bad) // one byte is missing: these are bytes of the frame
		isCut(t, stream, nil, stream)
		isCut(t, join(stream, []byte{6}), [][]byte{join(bad, []byte{6})}, nil)
		isRefused(t, stream, join([]byte{6}, bad), api.ErrSize)
	}
}

func TestFeedOfTooMuchHeld(t *testing.T) {
	whole := laid(data(most, 1))
	isFeed(t, whole[:mayHeld], nil, nil, whole[:mayHeld])
	isFeed(t, whole[:mayHeld], whole[mayHeld:], [][]byte{whole[4:]}, nil)
	isFeed(t, make([]byte, mayHeld), nil, make([][]byte, 256), make([]byte, 3))
	for _, b := range [][]byte{nil, {}, {0}, {1, 2, 3, 4}, make([]byte, 5000)} {
		isRefused(t, whole, b, api.ErrState) // though it is just a frame
		for _, n := range []int{mayHeld + 1, mayHeld + 2, 2 * most, 4096, 65536, 65537, 1 << 20} {
			isRefused(t, make([]byte, n), b, api.ErrState)
		}
	}
	isFeed(t, append(make([]byte, 0, 2*most), whole[:mayHeld]...), nil, nil, whole[:mayHeld]) // spare room does not count
}

func TestFeedOfMuchThatIsNew(t *testing.T) {
	for _, n := range []int{mayHeld + 1, 4096, 65536, 1 << 20} { // the bound is one of what is held alone
		isFeed(t, nil, make([]byte, n), make([][]byte, n/4), make([]byte, n%4))
		isFeed(t, make([]byte, mayHeld), make([]byte, n), make([][]byte, (n+mayHeld)/4), make([]byte, (n+mayHeld)%4))
	}
}

func TestFeedTellsTheErrorThatIsNamedFirst(t *testing.T) {
	for _, bad := range tooLong() {
		full := join(bad, make([]byte, mayHeld-4))
		isRefused(t, full, nil, api.ErrSize)
		isRefused(t, full, bad, api.ErrSize)
		isRefused(t, join(full, []byte{0}), nil, api.ErrState)
		isRefused(t, join(full, []byte{0}), bad, api.ErrState)
		isRefused(t, join(make([]byte, mayHeld-3), bad), nil, api.ErrState)
		isRefused(t, make([]byte, mayHeld+1), bad, api.ErrState)
		isRefused(t, make([]byte, mayHeld-3), bad, api.ErrSize)
	}
}

// What comes of it: it does not matter in which pieces a stream comes.

// frames: lists of bytes of all kinds of lengths.
func frames(n, seed int) [][]byte {
	var l [][]byte
	for i, v := range data(n, seed) {
		size := int(v)
		switch v % 8 {
		case 0:
			size = 0
		case 1:
			size = most - size/32
		case 2, 3:
			size %= 6
		}
		l = append(l, data(size, seed+i))
	}
	return l
}

// pieces: a stream, cut by what looks like chance.
func pieces(stream []byte, seed int) [][]byte {
	var l [][]byte
	sizes := []int{0, 1, 2, 3, 4, 5, 9, 64, 300, 1023, 1024, 1027, 1028, 1029, 4096}
	for i := 0; len(stream) > 0; i++ {
		v := data(1, seed*1000+i)[0]
		n := min(len(stream), sizes[int(v)%len(sizes)])
		l, stream = append(l, stream[:n]), stream[n:]
	}
	return l
}

func TestPiecesDoNotMatter(t *testing.T) {
	for seed := range 60 {
		want := frames(60, seed)
		rest := laid(data(50, seed))[:seed%54]
		stream := join(laid(want...), rest)
		for cut := range 20 {
			l, held := feedAll(t, pieces(stream, seed*20+cut)...)
			if !slices.EqualFunc(l, want, bytes.Equal) || !bytes.Equal(held, rest) {
				t.Fatalf("stream %d, cut %d: %s, %s, want %s, %s", seed, cut, shorts(l), short(held), shorts(want), short(rest))
			}
		}
	}
}

func TestStreamIsRefusedAtTheFourthByteOfALength(t *testing.T) {
	l := frames(20, 5)
	for _, bad := range tooLong() {
		good := laid(l...)
		for cut := range 4 {
			got, held := feedAll(t, append(pieces(good, cut), bad[:cut])...)
			if !slices.EqualFunc(got, l, bytes.Equal) || !bytes.Equal(held, bad[:cut]) {
				t.Fatalf("%d bytes of %v: %s, %s", cut, bad, shorts(got), short(held))
			}
			isRefused(t, held, bad[cut:], api.ErrSize)
		}
	}
}

// What holds everywhere.

func TestWhatIsHandedInIsNotChanged(t *testing.T) {
	same := func(name string, now, was []byte) {
		if !bytes.Equal(now[:cap(now)][:len(was)], was) {
			t.Helper()
			t.Fatalf("%s: %s, was %s", name, short(now[:cap(now)]), short(was))
		}
	}
	for _, n := range []int{0, 1, 5, most, most + 1} {
		b := roomy(data(n, n))
		was := bytes.Clone(b[:n+6])
		frame.Wrap(b)
		same("Wrap", b, was)
	}
	streams := [][]byte{nil, {0}, laid([]byte{1, 2, 3}), laid(nil, []byte{4}, data(90, 1))[:60], {0, 0, 4, 1, 5, 6}, laid(data(most, 2))}
	for _, stream := range streams {
		for at := range len(stream) + 1 { // the last one is too much to be held
			held, b := roomy(stream[:at]), roomy(stream[at:])
			wasHeld, was := bytes.Clone(held[:at+6]), bytes.Clone(b[:len(b)+6])
			frame.Feed(held, b)
			same("Feed, held", held, wasHeld)
			same("Feed", b, was)
		}
	}
}

// fill: over all that a list has room for.
func fill(b []byte, v byte) {
	for i := range b[:cap(b)] {
		b[:cap(b)][i] = v
	}
}

func TestWrapAnswersNewMemory(t *testing.T) {
	for _, n := range []int{0, 1, 5, 300, most} {
		b := roomy(data(n, n))
		one, _ := frame.Wrap(b)
		two, _ := frame.Wrap(b)
		fill(one, 99)
		if !bytes.Equal(two, laid(data(n, n))) || !bytes.Equal(b, data(n, n)) || !bytes.Equal(b[:n+6], roomy(data(n, n))[:n+6]) {
			t.Fatalf("what Wrap of %d bytes answers is shared", n)
		}
		fill(b, 98)
		if !bytes.Equal(two, laid(data(n, n))) {
			t.Fatalf("what Wrap was given (%d bytes) is kept", n)
		}
	}
}

func TestFeedAnswersNewMemory(t *testing.T) {
	l := [][]byte{{1, 2, 3}, {}, {4}, data(200, 1), {5, 6}}
	rest := []byte{0, 0, 0, 9, 7, 7}
	stream := join(laid(l...), rest)
	for at := range len(stream) + 1 {
		held, b := roomy(stream[:at]), roomy(stream[at:])
		one, kept, _ := frame.Feed(held, b)
		two, keptToo, _ := frame.Feed(held, b)
		for _, f := range one {
			fill(f, 99)
		}
		fill(kept, 99)
		clear(one[:cap(one)])
		if !bytes.Equal(join(held, b), stream) || !bytes.Equal(held[:at+6], roomy(stream[:at])[:at+6]) {
			t.Fatalf("cut at %d: what Feed answers is what it was given", at)
		}
		fill(held, 98)
		fill(b, 98)
		if !slices.EqualFunc(two, l, bytes.Equal) || !bytes.Equal(keptToo, rest) {
			t.Fatalf("cut at %d: %s, %s: what Feed answers is shared", at, shorts(two), short(keptToo))
		}
	}
}

func TestWhatIsHeldIsNewMemory(t *testing.T) {
	for n := range 30 { // no frame, so nothing is asked of held but a copy
		stream := join([]byte{0, 0, 0, 200}, data(26, 1))[:n]
		for _, held := range [][]byte{roomy(stream), roomy(stream[:n/2])} {
			b := roomy(stream[len(held):])
			_, kept, _ := frame.Feed(held, b)
			fill(held, 98)
			fill(b, 98)
			if !bytes.Equal(kept, stream) {
				t.Fatalf("%d bytes, %d of them held: %s, want %s", n, len(held), short(kept), short(stream))
			}
		}
	}
}

func TestListsOfOneAnswerShareNothing(t *testing.T) {
	l := [][]byte{{1, 2, 3}, {}, {4}, data(200, 1), {}, {5, 6}}
	rest := []byte{0, 0, 0, 9, 7, 7}
	stream := join(laid(l...), rest)
	for at := range len(l) + 1 { // one of them after another is written over, its spare room too
		got, kept, _ := frame.Feed(stream[:9], stream[9:])
		all := append(slices.Clone(got), kept)
		fill(all[at], 99)
		for i, b := range append(slices.Clone(l), rest) {
			if i != at && !bytes.Equal(all[i], b) {
				t.Errorf("list %d: %s, want %s, for list %d was changed", i, short(all[i]), short(b), at)
			}
		}
	}
}

// ask: all that is told of some bytes.
func ask(b []byte) string {
	wrapped, code := frame.Wrap(b)
	told := fmt.Sprintln(wrapped, code)
	for _, at := range []int{0, len(b) / 3, len(b)} {
		l, held, code := frame.Feed(b[:at], b[at:])
		told += fmt.Sprintln(l, held, code)
	}
	return told
}

func TestAnswersHangOnArgumentsAlone(t *testing.T) {
	all := append(tooLong(), nil, []byte{0, 0, 1}, laid(frames(3, 1)...), laid(frames(9, 2)...), make([]byte, mayHeld), make([]byte, mayHeld+1), data(most, 1))
	var first []string
	for _, b := range all {
		first = append(first, ask(b))
	}
	var hands sync.WaitGroup
	for range 4 {
		hands.Go(func() {
			for i, b := range slices.Backward(all) {
				if now := ask(b); now != first[i] {
					t.Errorf("%s: %s, first %s", short(b), now, first[i])
				}
			}
		})
	}
	hands.Wait()
}
