package serve_test

import (
	"strings"
	"testing"

	"packthread/api"
)

// P14.2: ReadAt and WriteAt.

// laid: bytes with others from a place on, and zeros between.
func laid(old string, at int, s string) string {
	b := make([]byte, max(len(old), at+len(s)))
	copy(b, old)
	copy(b[at:], s)
	return string(b)
}

func TestReadAt(t *testing.T) {
	for _, n := range []int{0, 1, 2, 10, chunk - 1, chunk, chunk + 1, 3 * chunk, most - chunk, most - 1, most} {
		s := text(n)
		for _, at := range []int{0, 1, 2, 9, 10, 11, chunk - 1, chunk, chunk + 1, n - chunk - 1, n - chunk, n - chunk + 1, n - 1, n, n + 1, most - chunk, most - 1, most} {
			if at < 0 || at > most {
				continue
			}
			l := append(file("/f", 0, s), pair{open("/f", forRead), opened(8)})
			for _, count := range []int{1, 2, 3, 10, 11, chunk - 1, chunk} {
				l = append(l, pair{read(8, at, count), data(s[min(at, n):min(at+count, n)])})
			}
			l = append(l, pair{status("/f"), aFile(n)})
			isList(t, asks(l), wants(l))
		}
	}
}

func TestEachCount(t *testing.T) {
	s := text(150)
	l := append(file("/f", 0, s), pair{open("/f", both), opened(8)})
	for count := -20; count < 2*chunk; count++ {
		for _, at := range []int{0, 7, 60, 149, 150, 151, most} {
			if count < 1 || count > chunk {
				more := with(l, pair{read(8, at, count), refused(errSize)}, pair{all(8), data(s[:chunk])})
				isList(t, asks(more), wants(more))
				continue
			}
			more := with(l, pair{read(8, at, count), data(s[min(at, 150):min(at+count, 150)])})
			isList(t, asks(more), wants(more))
		}
	}
	for _, count := range append(far(), most, most-1, 200, 1000, 256, 256+1, 65536+1, 1<<32+1) {
		isNothing(t, asks(l), read(8, 0, count), errSize)
	}
	isNothing(t, asks(l), read(8, 0, 0), errSize)
	isNothing(t, asks(l), read(8, 0, chunk+1), errSize)
}

func TestWriteAt(t *testing.T) {
	for _, old := range []string{"", "a", "abc", text(50), text(chunk + 20)} {
		for _, s := range []string{"", "X", "XY", "\x00", "\x00Z\x00", text(60), text(chunk - 1), text(chunk)} {
			for _, at := range []int{0, 1, 2, 3, 4, 49, 50, 51, 60, chunk, chunk + 19, chunk + 20, chunk + 21, 1000} {
				want := laid(old, at, s)
				l := with(file("/f", 0, old), pair{open("/f", both), opened(8)}, pair{write(8, at, s), sized(len(want))}, pair{status("/f"), aFile(len(want))})
				for from := 0; from < len(want); from += chunk {
					l = append(l, pair{read(8, from, chunk), data(want[from:min(from+chunk, len(want))])})
				}
				l = append(l, pair{write(8, at, s), sized(len(want))}, pair{write(8, 0, ""), sized(len(want))})
				isList(t, asks(l), wants(l))
			}
		}
	}
}

func TestEachLengthOfData(t *testing.T) {
	l := append(file("/f", 0, "abc"), pair{open("/f", both), opened(8)})
	for n := range 2*chunk + 50 {
		for _, at := range []int{0, 2, 3, 9, most} {
			s := text(n)
			switch {
			case n > chunk:
				more := with(l, pair{write(8, at, s), refused(errSize)}, pair{status("/f"), aFile(3)}, pair{all(8), data("abc")})
				isList(t, asks(more), wants(more))
			case at+n > most:
				more := with(l, pair{write(8, at, s), refused(errOver)}, pair{status("/f"), aFile(3)}, pair{all(8), data("abc")})
				isList(t, asks(more), wants(more))
			default:
				want := laid("abc", at, s)
				more := with(l, pair{write(8, at, s), sized(len(want))}, pair{read(8, at, chunk), data(want[at:min(at+chunk, len(want))])}, pair{all(8), data(want[:min(chunk, len(want))])})
				isList(t, asks(more), wants(more))
			}
		}
	}
	for _, n := range []int{chunk + 1, 256, 256 + 5, 512, 1000, most, most + 1, 65535, 65536, 65536 + 50, 1 << 20} {
		isNothing(t, asks(l), write(8, 0, text(n)), errSize)
	}
}

func TestWriteAtUpToTheBound(t *testing.T) {
	for _, n := range []int{0, 1, 1000, most - 1, most} {
		old := text(n)
		l := append(file("/f", 0, old), pair{open("/f", both), opened(8)})
		for _, size := range []int{0, 1, 2, 50, chunk - 1, chunk} {
			for _, at := range []int{most - chunk - 1, most - chunk, most - chunk + 1, most - 51, most - 50, most - 49, most - 3, most - 2, most - 1, most} {
				s := text(size)
				if at+size > most {
					more := with(l, pair{write(8, at, s), refused(errOver)}, pair{status("/f"), aFile(n)}, pair{read(8, at, chunk), data(old[min(at, n):min(at+chunk, n)])})
					isList(t, asks(more), wants(more))
					continue
				}
				want := laid(old, at, s)
				more := with(l, pair{write(8, at, s), sized(len(want))}, pair{status("/f"), aFile(len(want))}, pair{read(8, at, chunk), data(want[at:min(at+chunk, len(want))])}, pair{read(8, max(0, at-chunk), chunk), data(want[max(0, at-chunk):min(max(chunk, at), len(want))])})
				isList(t, asks(more), wants(more))
			}
		}
	}
}

func TestAtNoPlace(t *testing.T) {
	l := append(file("/f", 0, "abc"), pair{open("/f", both), opened(8)})
	for _, at := range far() {
		for _, n := range []int{1, 2, chunk} {
			isNothing(t, asks(l), read(8, at, n), errRange)
			isNothing(t, asks(l), write(8, at, text(n)), errRange)
		}
		isNothing(t, asks(l), write(8, at, ""), errRange)
		isNothing(t, asks(l), read(8, at, 0), errSize)
		isNothing(t, asks(l), read(8, at, chunk+1), errSize)
		isNothing(t, asks(l), write(8, at, text(chunk+1)), errSize)
	}
}

// TestWhatAHowLets: one, the other, or both; whatever else it has.
func TestWhatAHowLets(t *testing.T) {
	for _, how := range goodHows() {
		l := []pair{{open("/f", how|forNew), opened(0)}}
		if how&forRead == 0 {
			for _, r := range []api.Request{all(0), read(0, 0, 1), read(0, 0, 0), read(0, 0, chunk+1), read(0, -1, 1), read(0, most+1, -1)} {
				isPlay(t, with(l, pair{r, refused(errDenied)}, pair{status("/f"), aFile(0)})...)
			}
		} else {
			isPlay(t, with(l, pair{all(0), data("")}, pair{read(0, most, 1), data("")}, pair{read(0, 0, 0), refused(errSize)}, pair{read(0, -1, 1), refused(errRange)})...)
		}
		if how&forWrite == 0 {
			for _, r := range []api.Request{write(0, 0, ""), write(0, 0, "x"), write(0, 0, text(chunk+1)), write(0, -1, "x"), write(0, most, "x"), write(0, most+1, text(chunk+1))} {
				isPlay(t, with(l, pair{r, refused(errDenied)}, pair{status("/f"), aFile(0)})...)
			}
		} else {
			isPlay(t, with(l, pair{write(0, 0, ""), sized(0)}, pair{write(0, 1, "x"), sized(2)}, pair{status("/f"), aFile(2)}, pair{write(0, 0, text(chunk+1)), refused(errSize)}, pair{write(0, -1, "x"), refused(errRange)}, pair{write(0, most, "x"), refused(errOver)})...)
		}
	}
}

// fates: what may become of the file that was opened as /d/f, and what a Get or a Put of that path is refused with then; ok: there are other bytes there.
func fates() []struct {
	l     []pair
	code  api.Errno
	bytes string
} {
	type fate = struct {
		l     []pair
		code  api.Errno
		bytes string
	}
	gone := made(remove("/d/f"))
	away := made(move("/d", "/m"))
	return []fate{
		{nil, ok, "mid"},
		{gone, errNone, ""},
		{join(gone, made(remove("/d/e"), remove("/d"))), errNone, ""},
		{made(move("/d/f", "/d/g")), errNone, ""},
		{made(move("/d/f", "/n")), errNone, ""},
		{away, errNone, ""},
		{join(away, made(move("/m", "/d"))), ok, "mid"},
		{made(move("/d/f", "/n"), move("/n", "/d/f")), ok, "mid"},
		{made(remove("/d/f"), move("/f", "/d/f")), ok, "abcde"},
		{made(move("/d/f", "/n"), move("/f", "/d/f")), ok, "abcde"},
		{join(gone, file("/d/f", 1, "other")), ok, "other"},
		{join(gone, file("/d/f", 1, "")), ok, ""},
		{join(gone, made(mkdir("/d/f"))), errDir, ""},
		{join(gone, made(mkdir("/d/f"), mkdir("/d/f/f"))), errDir, ""},
		{join(gone, made(link("/d/f", "../f"))), ok, "abcde"},
		{join(gone, made(link("/d/f", "/lf"))), ok, "abcde"},
		{join(made(move("/d/f", "/d/g"), link("/d/f", "g"))), ok, "mid"},
		{join(gone, made(link("/d/f", "nobody"))), errNone, ""},
		{join(gone, made(link("/d/f", "f"))), errLoop, ""},
		{join(gone, made(link("/d/f", "\x00"))), errForm, ""},
		{join(gone, made(link("/d/f", "../e"))), errDir, ""},
		{join(gone, made(link("/d/f", "../f/x"))), errNotDir, ""},
		{join(gone, made(link("/d/f", strings.Repeat("/x", deep+1)))), errFull, ""},
		{join(away, made(mkdir("/d"))), errNone, ""},
		{join(away, made(mkdir("/d")), file("/d/f", 1, "young")), ok, "young"},
		{join(away, made(link("/d", "m"))), ok, "mid"},
		{join(away, made(link("/d", "/"))), ok, "abcde"},
		{join(away, made(link("/d", "f"))), errNotDir, ""},
		{join(away, made(link("/d", "d"))), errLoop, ""},
		{join(away, file("/d", 1, "x")), errNotDir, ""},
	}
}

// TestWhatBecomesOfTheFile: a handle is of a path, whatever stands there.
func TestWhatBecomesOfTheFile(t *testing.T) {
	for _, f := range fates() {
		for _, how := range []int{forRead, forWrite, both, both | forNew, both | forEmpty | forNew} {
			isFate(t, f.l, how, f.code, f.bytes)
		}
	}
}

func isFate(t *testing.T, fate []pair, how int, code api.Errno, bytes string) {
	t.Helper()
	n := len(bytes)
	if bytes == "mid" && how&forEmpty != 0 { // it was cut off when it was opened
		bytes, n = "", 0
	}
	l := join(world(), []pair{{open("/d/f", how), opened(next)}}, fate)
	isList(t, asks(l), wants(l))
	reads, writes := refused(code), refused(code)
	ends, beyond := refused(code), refused(code)
	if code == ok {
		reads, writes = data(bytes), sized(n+1)
		ends, beyond = refused(errOver), refused(errRange)
	}
	more := []pair{{all(next), reads}, {read(next, -1, 1), beyond}, {read(next, most+1, 1), beyond}, {read(next, 0, 0), refused(errSize)}, {read(next, 0, chunk+1), refused(errSize)}}
	if how&forRead == 0 {
		for i := range more {
			more[i].want = refused(errDenied)
		}
	}
	put := []pair{{write(next, most, "x"), ends}, {write(next, -1, "x"), beyond}, {write(next, n, "x"), writes}, {write(next, 0, text(chunk+1)), refused(errSize)}}
	if how&forWrite == 0 {
		for i := range put {
			put[i].want = refused(errDenied)
		}
	}
	more = append(more, put...)
	more = append(more, pair{shut(next), done}, pair{all(next), refused(errOld)}, pair{shut(next), refused(errOld)})
	l = append(l, more...)
	isList(t, asks(l), wants(l))
}

// TestAFileThatComesBack: a handle that found nothing finds it again.
func TestAFileThatComesBack(t *testing.T) {
	isPlay(t, with(file("/f", 0, "abc"), pair{open("/f", both), opened(8)}, pair{remove("/f"), done}, pair{all(8), refused(errNone)}, pair{write(8, 0, "x"), refused(errNone)}, pair{status("/f"), refused(errNone)}, pair{mkdir("/f"), done}, pair{all(8), refused(errDir)}, pair{write(8, 0, "x"), refused(errDir)}, pair{remove("/f"), done}, pair{open("/f", forWrite|forNew), opened(1)}, pair{all(8), data("")}, pair{write(1, 0, "xy"), sized(2)}, pair{all(8), data("xy")}, pair{write(8, 2, "z"), sized(3)}, pair{read(1, 0, 1), refused(errDenied)}, pair{move("/f", "/g"), done}, pair{all(8), refused(errNone)}, pair{write(1, 0, "x"), refused(errNone)}, pair{status("/g"), aFile(3)}, pair{link("/f", "g"), done}, pair{write(1, 0, "X"), sized(3)}, pair{all(8), data("Xyz")})...)
}

// TestAHandleThroughALink: the path is found anew each time.
func TestAHandleThroughALink(t *testing.T) {
	isPlay(t, join(file("/f", 0, "one"), file("/g", 8, "three"), made(link("/l", "f")), []pair{{open("/l", both), opened(16)}, {all(16), data("one")}, {write(16, 3, "!"), sized(4)}, {status("/f"), aFile(4)}, {remove("/l"), done}, {all(16), refused(errNone)}, {link("/l", "g"), done}, {all(16), data("three")}, {write(16, 0, "T"), sized(5)}, {open("/g", forRead), opened(1)}, {all(1), data("Three")}, {remove("/f"), done}, {all(16), data("Three")}, {remove("/g"), done}, {all(16), refused(errNone)}})...)
	isPlay(t, join(made(mkdir("/a"), mkdir("/b")), file("/a/f", 0, "one"), file("/b/f", 8, "three"), made(link("/d", "a")), []pair{{open("/d/f", both), opened(16)}, {all(16), data("one")}, {move("/d", "/e"), done}, {all(16), refused(errNone)}, {link("/d", "b"), done}, {all(16), data("three")}, {open("/d/../a/./f/", forRead), opened(1)}, {all(1), data("one")}})...)
}

// TestWhichErrorIsToldFirst: each way in which a ReadAt or a WriteAt may be refused, with and without each of the others.
func TestWhichErrorIsToldFirst(t *testing.T) {
	for odd := range 1 << 6 {
		has := func(bit int) bool { return odd>>bit&1 == 1 }
		for _, writes := range []bool{false, true} {
			how, h, size, at := both, 8, 3, 0
			var codes []api.Errno
			note := func(code api.Errno, bit int) bool {
				if has(bit) {
					codes = append(codes, code)
				}
				return has(bit)
			}
			if note(errOld, 0) {
				h = 0
			}
			if note(errDenied, 1) {
				how = map[bool]int{false: forWrite, true: forRead}[writes]
			}
			if note(errSize, 2) {
				size = chunk + 1
			}
			var fate []pair
			switch {
			case note(errNone, 3):
				fate = made(remove("/f"))
			case note(errDir, 4):
				fate = made(remove("/f"), mkdir("/f"))
			}
			switch {
			case note(errRange, 5):
				at = most + 1
			case writes:
				at = most
				codes = append(codes, errOver)
			}
			r, last := read(h, at, size), append(codes, ok)[0]
			if writes {
				r = write(h, at, text(size))
			}
			l := with(join(file("/f", 0, "abc"), []pair{{open("/f", how), opened(8)}}, fate))
			if last == ok {
				l = append(l, pair{r, data("abc")})
			} else {
				l = append(l, pair{r, refused(last)})
			}
			isPlay(t, l...)
		}
	}
}

// TestManyOfOneFile: bytes that come through several handles are in one file, in the order in which they came.
func TestManyOfOneFile(t *testing.T) {
	l := []pair{{open("/f", both|forNew), opened(0)}}
	for h := 1; h < places; h++ {
		l = append(l, pair{open("/f", both), opened(h)})
	}
	var s string
	for i := range 120 {
		h, at, piece := i*5%places, i*7%40*i%90, text(i%13)
		s = laid(s, at, piece)
		l = append(l, pair{write(h, at, piece), sized(len(s))}, pair{all((h + 3) % places), data(s[:min(len(s), chunk)])})
	}
	isList(t, asks(l), wants(l))
}
