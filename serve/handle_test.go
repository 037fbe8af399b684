package serve_test

import (
	"fmt"
	"math"
	"slices"
	"testing"

	"packthread/api"
	"packthread/serve"
)

// P14.2: handles, their places and their numbers; Shutdown.

func TestPlacesFromTheFirstOn(t *testing.T) {
	var l []pair
	for h := range places {
		l = append(l, pair{open(fmt.Sprint("/n", h), both|forNew), opened(h)})
	}
	l = append(l, pair{open("/n8", both|forNew), refused(errFull)}, pair{open("/n0", forRead), refused(errFull)}, pair{status("/"), aDir(places)})
	for h := range places { // each has a Path of its own
		l = append(l, pair{write(h, h, fmt.Sprint("of ", h)), sized(h + 4)}, pair{status(fmt.Sprint("/n", h)), aFile(h + 4)})
	}
	for h := range places {
		l = append(l, pair{read(h, h, 9), data(fmt.Sprint("of ", h))})
	}
	isPlay(t, l...)
}

// TestAHowOfEach: handles of one file let what their own How lets.
func TestAHowOfEach(t *testing.T) {
	hows := []int{forRead, forWrite, both, forRead | forNew, forWrite | forNew, both | forNew, both, forRead}
	numbers := []int{8, 1, 2, 3, 4, 5, 6, 7}
	l := file("/f", 0, "abc")
	for i, how := range hows {
		l = append(l, pair{open("/f", how), opened(numbers[i])})
	}
	for i, how := range hows {
		h := numbers[i]
		reads, writes := refused(errDenied), refused(errDenied)
		if how&forRead != 0 {
			reads = data("bc")
		}
		if how&forWrite != 0 {
			writes = sized(3)
		}
		l = append(l, pair{read(h, 1, 9), reads}, pair{write(h, 0, "a"), writes}, pair{read(h, 1, 9), reads})
	}
	l = append(l, pair{write(2, 3, "def"), sized(6)}, pair{read(8, 0, 9), data("abcdef")}, pair{read(3, 5, 9), data("f")}, pair{read(7, 1, 4), data("bcde")}, pair{write(1, 0, "A"), sized(6)}, pair{read(6, 0, 2), data("Ab")})
	isPlay(t, l...)
}

// TestWhichPlaceIsTakenNext: whichever places were freed, in whatever order, the first of them is.
func TestWhichPlaceIsTakenNext(t *testing.T) {
	for set := range 1 << places {
		for _, back := range []bool{false, true} {
			var freed []int
			for h := range places {
				if set>>h&1 == 1 {
					freed = append(freed, h)
				}
			}
			l := []pair{{open("/f", both|forNew), opened(0)}, {write(0, 0, "abc"), sized(3)}}
			for h := 1; h < places; h++ {
				l = append(l, pair{open("/f", both), opened(h)})
			}
			order := slices.Clone(freed)
			if back {
				slices.Reverse(order)
			}
			for _, h := range order {
				l = append(l, pair{shut(h), done}, pair{shut(h), refused(errOld)}, pair{all(h), refused(errOld)})
			}
			for _, h := range freed {
				l = append(l, pair{open("/n", forRead), refused(errNone)}, pair{open("/f", both), opened(h + places)})
			}
			l = append(l, pair{open("/f", both), refused(errFull)})
			for h := range places {
				old, young := data("abc"), refused(errOld)
				if slices.Contains(freed, h) {
					old, young = young, old
				}
				l = append(l, pair{all(h), old}, pair{all(h + places), young})
			}
			isList(t, asks(l), wants(l))
		}
	}
}

func TestFreedAgainAndAgain(t *testing.T) {
	for at := range places { // the places ahead of it are taken
		var l []pair
		for h := range at {
			l = append(l, pair{open("/f", both|forNew), opened(h)})
		}
		for h := at; len(l)+3 < events; h += places {
			l = append(l, pair{open("/f", both|forNew), opened(h)}, pair{shut(h), done})
			if len(l)%3 == 0 {
				l = append(l, pair{shut(h), refused(errOld)})
			}
		}
		isList(t, asks(l), wants(l))
	}
	isPlay(t,
		pair{open("/f", both|forNew), opened(0)}, pair{open("/f", both), opened(1)}, pair{shut(0), done}, pair{open("/f", both), opened(8)}, pair{open("/f", both), opened(2)},
		pair{shut(1), done}, pair{shut(8), done}, pair{open("/f", both), opened(16)}, pair{open("/f", both), opened(9)}, pair{open("/f", both), opened(3)},
		pair{shut(9), done}, pair{open("/f", both), opened(17)}, pair{shut(17), done}, pair{open("/f", both), opened(25)}, pair{shut(16), done}, pair{shut(2), done}, pair{open("/f", both), opened(24)}, pair{open("/f", both), opened(10)},
		pair{shut(2), refused(errOld)}, pair{shut(17), refused(errOld)}, pair{shut(8), refused(errOld)}, pair{shut(0), refused(errOld)}, pair{shut(3), done}, pair{shut(25), done}, pair{shut(24), done}, pair{shut(10), done},
		pair{open("/f", both), opened(32)}, pair{open("/f", both), opened(33)}, pair{open("/f", both), opened(18)}, pair{open("/f", both), opened(11)}, pair{open("/f", both), opened(4)},
	)
}

// TestOnlyAShutdownFrees: a place stays taken, and its handle open, whatever becomes of the file.
func TestOnlyAShutdownFrees(t *testing.T) {
	isPlay(t, with(file("/f", 0, "abc"), pair{open("/f", both), opened(8)}, pair{remove("/f"), done}, pair{all(8), refused(errNone)}, pair{open("/n", both|forNew), opened(1)}, pair{move("/n", "/m"), done}, pair{open("/m", forRead), opened(2)}, pair{shut(8), done}, pair{open("/m", forRead), opened(16)}, pair{shut(1), done}, pair{shut(1), refused(errOld)}, pair{shut(2), done}, pair{open("/m", forRead), opened(9)})...)
}

// uses: all that needs a handle, with other things that are odd about it.
func uses(h int) []api.Request {
	return []api.Request{shut(h), all(h), read(h, 0, 0), read(h, -1, -1), read(h, most+1, chunk+1), write(h, 0, "x"), write(h, -1, ""), write(h, most+1, text(chunk+1))}
}

// isOld: behind these pairs no number but those of some handles is one that is open.
func isOld(t *testing.T, l []pair, open ...int) {
	t.Helper()
	numbers := append(far(), math.MaxInt64-8, math.MinInt64+16, 1<<32+16, 1<<16+8, 256, 256+8)
	for h := -70; h < 140; h++ {
		numbers = append(numbers, h)
	}
	for _, h := range numbers {
		if slices.Contains(open, h) {
			more := with(l, pair{read(h, 0, 3), data("abc")}, pair{write(h, 3, ""), sized(3)}, pair{shut(h), done}, pair{shut(h), refused(errOld)})
			isList(t, asks(more), wants(more))
			continue
		}
		for _, r := range uses(h) {
			more := with(l, pair{r, refused(errOld)})
			for _, h := range open { // they are as they were
				more = append(more, pair{read(h, 0, 4), data("abc")}, pair{shut(h), done})
			}
			isList(t, asks(more), wants(more))
		}
	}
}

func TestHandlesThatAreNotOpen(t *testing.T) {
	isOld(t, nil)
	isOld(t, made(mkdir("/d")))
	isOld(t, []pair{{open("/f", both), refused(errNone)}})
	isOld(t, []pair{{open("/f", both|forNew), opened(0)}, {write(0, 0, "abc"), sized(3)}}, 0)
	l := file("/f", 0, "abc")
	isOld(t, l)
	l = append(l, pair{open("/f", both), opened(8)})
	isOld(t, l, 8)
	l = append(l, pair{open("/f", both), opened(1)}, pair{open("/f", both), opened(2)}, pair{shut(1), done})
	isOld(t, l, 8, 2)
	l = append(l, pair{shut(8), done}, pair{open("/f", both), opened(16)}, pair{shut(16), done}, pair{open("/f", both), opened(24)})
	isOld(t, l, 24, 2) // others have the place since
	l = append(l, pair{open("/f", both), opened(9)}, pair{open("/f", both), opened(3)}, pair{open("/f", both), opened(4)}, pair{open("/f", both), opened(5)}, pair{open("/f", both), opened(6)}, pair{open("/f", both), opened(7)})
	isOld(t, l, 24, 9, 2, 3, 4, 5, 6, 7)
	l = append(l, pair{open("/f", both), refused(errFull)}, pair{shut(7), done}, pair{shut(4), done}, pair{shut(9), done})
	isOld(t, l, 24, 2, 3, 5, 6)
}

// TestAHandleOfAPlaceThatAnotherOneHasSince: it does nothing to that one, and lets nothing.
func TestAHandleOfAPlaceThatAnotherOneHasSince(t *testing.T) {
	l := join(file("/f", 0, "abc"), file("/g", 8, "xyz"), []pair{{open("/f", both), opened(16)}, {shut(16), done}, {open("/g", forRead), opened(24)}})
	for _, h := range []int{0, 8, 16, 32, 40} {
		for _, r := range uses(h) {
			isPlay(t, with(l, pair{r, refused(errOld)}, pair{all(24), data("xyz")}, pair{status("/f"), aFile(3)}, pair{write(24, 0, "x"), refused(errDenied)}, pair{shut(24), done}, pair{shut(24), refused(errOld)}, pair{open("/f", forWrite), opened(32)})...)
		}
	}
}

// TestShutdownOfEach: in every order of three, the numbers are of their places.
func TestShutdownOfEach(t *testing.T) {
	for _, order := range [][]int{{0, 1, 2}, {0, 2, 1}, {1, 0, 2}, {1, 2, 0}, {2, 0, 1}, {2, 1, 0}} {
		l := []pair{{open("/a", both|forNew), opened(0)}, {open("/b", both|forNew), opened(1)}, {open("/c", both|forNew), opened(2)}}
		for _, h := range order {
			l = append(l, pair{write(h, 0, "x"), sized(1)}, pair{shut(h), done}, pair{write(h, 0, "y"), refused(errOld)}, pair{open("/d", both|forNew), opened(h + places)}, pair{write(h, 0, "y"), refused(errOld)}, pair{write(h+places, h, "z"), sized(max(h+1, 1))}, pair{remove("/d"), done})
		}
		isPlay(t, with(l, pair{status("/a"), aFile(1)}, pair{status("/b"), aFile(1)}, pair{status("/c"), aFile(1)})...)
	}
}

// TestNothingIsKeptFromCallToCall: handles neither.
func TestNothingIsKeptFromCallToCall(t *testing.T) {
	for range 3 {
		isPlay(t, pair{all(0), refused(errOld)}, pair{open("/f", both|forNew|forOnly), opened(0)}, pair{open("/f", both), opened(1)}, pair{shut(0), done}, pair{open("/f", both), opened(8)})
		if _, code := serve.Play(slices.Repeat([]api.Request{open("/f", both|forNew)}, 9)); code != ok {
			t.Fatal(code)
		}
	}
}
