package fetch_test

import (
	"bytes"
	"slices"
	"testing"

	"packthread/api"
	"packthread/fetch"
)

// P15.2: which Gots are refused.

// isRefused: here a Got comes to this, with each number of bytes; and nothing came of it.
func isRefused(t *testing.T, l []pair, at, count int, code api.Errno, after ...pair) {
	t.Helper()
	for _, n := range []int{0, 1, 50, 99, 100, 101, 200, most} {
		x := pair{api.Got{At: at, Count: count, Data: bytes.Repeat([]byte{'!'}, n)}, refused(code)}
		isPlay(t, with(with(l, x, x), after...)...)
	}
}

func TestWantsThatAreNotOut(t *testing.T) {
	l := []pair{{bring(0, 100, 100), ask(600, 100)}, {bring(200, 100, 30), ask(230, 70)}, {none(500, 100), ask()}}
	after := []pair{{bring(300, 100, 100), ask()}, {bring(230, 70, 70), ask()}, {bring(100, 100, 100), ask()}, {bring(400, 100, 100), done(500)}, {bring(600, 100, 100), done(500)}}
	for _, w := range [][2]int{
		{0, 100}, {500, 100}, // came already
		{0, 50}, {50, 50}, {0, 1}, {99, 1}, // parts of what came
		{200, 100}, {200, 30}, {230, 100}, {230, 30}, {230, 69}, {231, 69}, {229, 71}, {229, 70}, {231, 70}, {230, 71}, {270, 30}, // of a want of which some came
		{100, 50}, {150, 50}, {100, 99}, {101, 99}, {100, 1}, {199, 1}, {120, 60}, // parts of a want
		{300, 200}, {350, 100}, {399, 2}, {230, 170}, {100, 130}, {300, 101}, // of two
		{99, 100}, {101, 100}, {99, 101}, {100, 101}, {100, 0}, {100, 200}, {301, 99},
		{700, 100}, {800, 100}, {1500, 100}, {2000, 100}, {2048, 100}, {2100, 100}, {2200, 100}, {700, 1}, // never asked for
		{0, 0}, {0, -100}, {200, -100}, {100, -100}, {-100, 100}, {-100, 200}, {100, 100 + 1<<32}, {100 + 1<<32, 100}, {100, 356}, {356, 100},
	} {
		isRefused(t, l, w[0], w[1], errNone, after...)
	}
}

func TestNumbersThatAreFarAway(t *testing.T) {
	for _, x := range far() {
		for _, y := range []int{0, 1, 99, 100, 200, 500, 600} {
			isRefused(t, nil, x, y, errNone)
			isRefused(t, nil, y, x, errNone)
		}
		for _, y := range far() {
			isNone := pair{api.Got{At: x, Count: y, Data: []byte{1}}, refused(errNone)}
			isList(t, []api.Got{isNone.got, none(x, y)}, []api.Next{first(), isNone.want, isNone.want})
		}
	}
}

// TestWhatCameDoesNotComeAgain: not a moment later, and not when all of it came.
func TestWhatCameDoesNotComeAgain(t *testing.T) {
	again := func(at, count int) []pair {
		return []pair{{bring(at, count, count), refused(errNone)}, {none(at, count), refused(errNone)}, {bring(at, count, 1), refused(errNone)}, {bring(at, count, count+1), refused(errNone)}}
	}
	var l []pair
	for i := range chunks {
		l = with(l, pair{bring(i*chunk, chunk, chunk), onward(flight + i)})
		l = with(l, again(i*chunk, chunk)...)
	}
	isPlay(t, with(l, again(0, chunk)...)...)
	isPlay(t, with(with([]pair{{bring(300, 100, 7), ask(307, 93)}}, again(300, 100)...), with([]pair{{bring(307, 93, 8), ask(315, 85)}}, again(307, 93)...)...)...)
	isPlay(t, with(with([]pair{{none(300, 100), ask()}}, again(300, 100)...), with([]pair{{none(0, 100), done(0)}}, again(0, 100)...)...)...)
}

// TestMoreBytesThanWereAskedFor: also of a want of one byte; it is out still.
func TestMoreBytesThanWereAskedFor(t *testing.T) {
	for _, more := range []int{1, 2, 100, 156, 1000, most, 65536} {
		for i := range flight {
			isPlay(t, pair{bring(i*chunk, chunk, chunk+more), refused(errSize)}, pair{bring(i*chunk, chunk, chunk+more), refused(errSize)}, pair{bring(i*chunk, chunk, chunk), ask(600, 100)}, pair{bring(i*chunk, chunk, chunk+more), refused(errNone)})
		}
		isPlay(t, pair{bring(100, 100, 99), ask(199, 1)}, pair{bring(199, 1, 1+more), refused(errSize)}, pair{bring(199, 1, 1), ask(600, 100)}, pair{bring(200, 100, 60), ask(260, 40)}, pair{bring(260, 40, 40+more), refused(errSize)}, pair{bring(600, 100, 100+more), refused(errSize)}, pair{bring(260, 40, 2), ask(262, 38)})
	}
}

// TestWhatIsRefusedLeavesNoBytes: neither where it stands, nor behind that; and where a file is whole, nothing is told of it.
func TestWhatIsRefusedLeavesNoBytes(t *testing.T) {
	odd := func(at, count, n int) api.Got {
		return api.Got{At: at, Count: count, Data: bytes.Repeat([]byte{'!'}, n)}
	}
	isPlay(t,
		pair{odd(0, 100, 101), refused(errSize)}, pair{odd(100, 100, 400), refused(errSize)},
		pair{bring(0, 100, 100), ask(600, 100)}, pair{odd(0, 100, 100), refused(errNone)}, pair{odd(50, 20, 20), refused(errNone)}, pair{odd(100, 100, 101), refused(errSize)},
		pair{bring(100, 100, 20), ask(120, 80)}, pair{odd(120, 80, 81), refused(errSize)}, pair{odd(100, 20, 20), refused(errNone)}, pair{odd(100, 100, 100), refused(errNone)},
		pair{none(120, 80), done(120)}, pair{odd(0, 100, 100), refused(errNone)}, pair{odd(200, 100, 101), refused(errSize)}, pair{none(0, 100), refused(errNone)}, pair{none(100, 20), refused(errNone)},
		pair{bring(200, 100, 9), done(120, 209, 91)},
	)
}

// P15.2: how many bytes came of a want.

// TestDataOfAllSizes: of each want that is out at first, and of what is left of it.
func TestDataOfAllSizes(t *testing.T) {
	for i := range flight {
		at := i * chunk
		for n := 1; n <= chunk; n++ {
			l := []pair{{bring(at, chunk, n), ask(at+n, chunk-n)}}
			if n == chunk {
				l[0].want = ask(600, 100)
			}
			isPlay(t, l...)
			for m := 1; m < chunk-n; m += 1 + i*5 {
				isPlay(t, with(l, pair{bring(at+n, chunk-n, m), ask(at+n+m, chunk-n-m)}, pair{bring(at+n+m, chunk-n-m, chunk-n-m), ask(600, 100)}, pair{bring(600, 100, 1), ask(601, 99)})...)
			}
		}
	}
}

// TestPiecesOfOneByte: of the last want that is asked for.
func TestPiecesOfOneByte(t *testing.T) {
	l := inOrder(15)
	for n := range chunk - 1 {
		l = append(l, pair{bring(2000+n, chunk-n, 1), ask(2001+n, chunk-n-1)})
	}
	l = append(l, pair{bring(2099, 1, 1), ask()})
	isList(t, gots(l), nexts(l))
	l[len(l)-1] = pair{none(2099, 1), ask()}
	for _, at := range []int{1600, 1500, 1700, 1900} {
		l = append(l, pair{bring(at, 100, 100), ask()})
	}
	l = append(l, pair{bring(1800, 100, 100), done(2099)})
	isList(t, gots(l), nexts(l))
}

func gots(l []pair) (out []api.Got) {
	for _, p := range l {
		out = append(out, p.got)
	}
	return out
}

// nexts: what should come of these, behind what is asked for at first.
func nexts(l []pair) []api.Next {
	out := []api.Next{first()}
	for _, p := range l {
		out = append(out, p.want)
	}
	return out
}

// P15.2: the end.

// TestTheEndAtEachChunk: first of all that comes, or when all ahead of it came.
func TestTheEndAtEachChunk(t *testing.T) {
	for i := range flight { // nothing is asked on, whatever comes then
		l := []pair{{none(i*chunk, chunk), ask()}}
		if i == 0 {
			l[0].want = done(0)
		}
		for k := range flight {
			switch {
			case k < i-1:
				l = append(l, pair{bring(k*chunk, chunk, chunk), ask()})
			case k != i:
				l = append(l, pair{bring(k*chunk, chunk, chunk), done(i * chunk)})
			}
		}
		isPlay(t, l...)
	}
	for n := range chunks {
		l := with(inOrder(n), pair{none(n*chunk, chunk), done(n * chunk)})
		for k := n + 1; k < min(n+flight, chunks); k++ {
			l = append(l, pair{bring(k*chunk, chunk, 100-k), done(n*chunk, k*chunk+100-k, k)}, pair{none(k*chunk+100-k, k), done(n * chunk)})
		}
		isPlay(t, l...)
	}
}

// TestTheEndAtEachPlace: of a whole chunk, told by what is left of it.
func TestTheEndAtEachPlace(t *testing.T) {
	for _, ahead := range []int{0, 1, 5, 15, 20} {
		for n := 1; n < chunk; n++ {
			at := ahead * chunk
			isPlay(t, with(inOrder(ahead), pair{bring(at, chunk, n), ask(at+n, chunk-n)}, pair{none(at+n, chunk-n), done(at + n)}, pair{none(at+n, chunk-n), refused(errNone)})...)
		}
	}
}

// TestALesserEnd: the same or a greater one says nothing any more.
func TestALesserEnd(t *testing.T) {
	l := []pair{{bring(0, 100, 100), ask(600, 100)}, {none(300, 100), ask()}}
	isPlay(t, with(l, pair{none(400, 100), ask()}, pair{none(600, 100), ask()}, pair{bring(100, 100, 100), ask()}, pair{bring(200, 100, 100), done(300)})...)
	isPlay(t, with(l, pair{none(200, 100), ask()}, pair{none(500, 100), ask()}, pair{bring(100, 100, 100), done(200)})...)
	isPlay(t, with(l, pair{none(400, 100), ask()}, pair{none(200, 100), ask()}, pair{none(100, 100), done(100)}, pair{none(500, 100), done(100)})...)
	isPlay(t, with(l, pair{none(100, 100), done(100)}, pair{none(200, 100), done(100)}, pair{none(400, 100), done(100)})...)
	isPlay(t, pair{none(500, 100), ask()}, pair{none(400, 100), ask()}, pair{none(300, 100), ask()}, pair{none(200, 100), ask()}, pair{none(100, 100), ask()}, pair{none(0, 100), done(0)})
	isPlay(t, pair{none(0, 100), done(0)}, pair{none(100, 100), done(0)}, pair{none(500, 100), done(0)}, pair{none(200, 100), done(0)}, pair{bring(300, 100, 100), done(0)}, pair{bring(400, 100, 1), done(0, 401, 99)}, pair{none(401, 99), done(0)})
	isPlay(t, pair{bring(200, 100, 50), ask(250, 50)}, pair{none(250, 50), ask()}, pair{bring(100, 100, 70), ask(170, 30)}, pair{none(170, 30), ask()}, pair{bring(0, 100, 100), done(170)}) // within a want, and ahead of bytes that came
}

// TestTheEndWithinWhatCame: bytes at it and behind it are none of the file.
func TestTheEndWithinWhatCame(t *testing.T) {
	l := []pair{{bring(100, 100, 100), ask(600, 100)}, {bring(300, 100, 100), ask(700, 100)}, {bring(500, 100, 80), ask(580, 20)}, {bring(0, 100, 40), ask(40, 60)}}
	isPlay(t, with(l, pair{none(40, 60), done(40)}, pair{bring(200, 100, 100), done(40)}, pair{bring(580, 20, 20), done(40)}, pair{none(700, 100), done(40)})...)
	isPlay(t, with(l, pair{bring(40, 60, 60), ask(800, 100)}, pair{none(200, 100), done(200)}, pair{bring(400, 100, 100), done(200)})...)
	isPlay(t, with(l, pair{bring(40, 60, 1), ask(41, 59)}, pair{none(400, 100), ask()}, pair{none(41, 59), done(41)}, pair{bring(200, 100, 30), done(41, 230, 70)})...)
	isPlay(t, with(l, pair{none(700, 100), ask()}, pair{bring(40, 60, 60), ask()}, pair{none(200, 100), done(200)})...)
}

// TestTheEndAtFrontAndBeyondIt: no want is there; so no end is known, and it is asked on.
func TestTheEndAtFrontAndBeyondIt(t *testing.T) {
	for n := range chunks {
		front := min((n+flight)*chunk, beyond)
		l := inOrder(n)
		for _, at := range []int{front, front + 1, front + 100, front + 200, 2048, 2100, 2200} {
			if at >= front {
				l = append(l, pair{none(at, 100), refused(errNone)})
			}
		}
		isPlay(t, with(l, pair{bring(n*chunk, chunk, chunk), onward(n + flight)})...)
	}
}

// TestTheGreatestFiles: whose end is told by what is left of the last want.
func TestTheGreatestFiles(t *testing.T) {
	for _, size := range []int{1999, 2000, 2001, most - 1, most, most + 1, beyond - 2, beyond - 1} {
		l := inOrder(size / chunk)
		at, n := size/chunk*chunk, size%chunk
		if n > 0 {
			l = append(l, pair{bring(at, chunk, n), ask(size, chunk-n)})
		}
		isPlay(t, with(l, pair{none(size, chunk-n), done(size)})...)
	}
}

// TestNothingIsAskedOnWhenTheEndIsKnown: although there is room; what is left of a want is asked for still, behind the end, too.
func TestNothingIsAskedOnWhenTheEndIsKnown(t *testing.T) {
	isPlay(t, with(inOrder(3),
		pair{none(800, 100), ask()},
		pair{bring(500, 100, 100), ask()}, pair{bring(400, 100, 33), ask(433, 67)}, pair{bring(600, 100, 100), ask()}, pair{bring(300, 100, 100), ask()},
		pair{bring(433, 67, 66), ask(499, 1)}, pair{bring(700, 100, 50), ask(750, 50)}, pair{bring(499, 1, 1), ask()}, pair{none(750, 50), done(750)},
	)...)
	isPlay(t, pair{none(200, 100), ask()}, pair{bring(300, 100, 4), ask(304, 96)}, pair{bring(304, 96, 95), ask(399, 1)}, pair{bring(0, 100, 100), ask()}, pair{bring(400, 100, 100), ask()}, pair{bring(100, 100, 100), done(200)}, pair{bring(500, 100, 1), done(200, 501, 99)}, pair{bring(399, 1, 1), done(200)}, pair{none(501, 99), done(200)})
}

// P15.2: Done.

// TestDoneAtTheEnd: not while a want just ahead of the end is out; one at it, or behind it, may be.
func TestDoneAtTheEnd(t *testing.T) {
	isPlay(t, pair{none(200, 100), ask()}, pair{bring(0, 100, 100), ask()}, pair{bring(100, 100, 99), ask(199, 1)}, pair{bring(199, 1, 1), done(200)})
	isPlay(t, pair{none(200, 100), ask()}, pair{bring(0, 100, 100), ask()}, pair{bring(100, 100, 99), ask(199, 1)}, pair{none(199, 1), done(199)})
	isPlay(t, pair{none(200, 100), ask()}, pair{bring(100, 100, 100), ask()}, pair{bring(0, 100, 1), ask(1, 99)}, pair{none(1, 99), done(1)})
	for _, out := range []int{300, 400, 500} { // one of those behind it is out still, or only a piece of it
		l := []pair{{none(200, 100), ask()}, {bring(100, 100, 100), ask()}}
		for _, at := range []int{300, 400, 500} {
			if at != out {
				l = append(l, pair{bring(at, 100, 100), ask()})
			}
		}
		isPlay(t, with(l, pair{bring(0, 100, 100), done(200)}, pair{bring(out, 100, 100), done(200)})...)
		isPlay(t, with(l, pair{bring(out, 100, 5), ask(out+5, 95)}, pair{bring(0, 100, 100), done(200)}, pair{none(out+5, 95), done(200)})...)
	}
}

// TestDoneIsToldAgain: with the same bytes, or with fewer, when the end is a lesser one then.
func TestDoneIsToldAgain(t *testing.T) {
	l := []pair{{bring(100, 100, 60), ask(160, 40)}, {bring(0, 100, 100), ask(600, 100)}, {bring(400, 100, 100), ask(700, 100)}, {none(160, 40), done(160)}}
	isPlay(t, with(l, pair{bring(200, 100, 100), done(160)}, pair{bring(300, 100, 1), done(160, 301, 99)}, pair{none(500, 100), done(160)}, pair{none(600, 100), done(160)}, pair{none(301, 99), done(160)}, pair{bring(700, 100, 100), done(160)}, pair{none(700, 100), refused(errNone)})...)
	two := []pair{{bring(100, 100, 100), ask(600, 100)}, {none(200, 100), ask()}, {bring(0, 100, 30), ask(30, 70)}, {bring(30, 70, 30), ask(60, 40)}}
	isPlay(t, with(two, pair{none(60, 40), done(60)}, pair{none(300, 100), done(60)})...)
	isPlay(t, with(two, pair{bring(60, 40, 40), done(200)}, pair{none(300, 100), done(200)})...)
}

// TestBytesThatDiffer: each place has the byte that came there, whatever it is, a zero, too.
func TestBytesThatDiffer(t *testing.T) {
	fill := func(at, count, n int, b byte) api.Got {
		return api.Got{At: at, Count: count, Data: bytes.Repeat([]byte{b}, n)}
	}
	l := []api.Got{fill(200, 100, 100, 0), fill(100, 100, 50, 1), fill(150, 50, 49, 0), fill(199, 1, 1, 255), fill(300, 100, 3, 128), none(303, 97), fill(0, 100, 100, 7)}
	got, code := fetch.Play(l)
	want := slices.Concat(bytes.Repeat([]byte{7}, 100), bytes.Repeat([]byte{1}, 50), make([]byte, 49), []byte{255}, make([]byte, 100), []byte{128, 128, 128})
	if code != ok || len(got) != len(l)+1 || !got[7].Done || !bytes.Equal(got[7].Data, want) || got[6].Done || got[6].Data != nil {
		t.Fatalf("%s", shows(got, code))
	}
}
