package serve_test

import (
	"fmt"
	"math"
	"slices"
	"strings"
	"testing"

	"packthread/api"
)

// P14.2: Open.

// row: a path of the world, the bytes of the file there, and what an Open of it comes to: as it is; with ForNew; with ForOnly (and so ForNew).
type row struct {
	path, bytes      string
	plain, new, only api.Errno
}

func rows() (out []row) {
	add := func(paths, bytes string, plain, new, only api.Errno) {
		for _, p := range strings.Fields(paths) {
			out = append(out, row{p, bytes, plain, new, only})
		}
	}
	add("/f f ./f/ /nobody/../f /lf /lr/f /lr/lf /lr/lr/lf", "abcde", ok, ok, errTwice)
	add("/d/f d//f /ld/f /lr/d/f /lr/lr/ld/f", "mid", ok, ok, errTwice)
	add("/ /d /e /d/e /ld /ld/e /lr /lr/e /d/.. .. . /nobody/..", "", errDir, errDir, errTwice)
	out = append(out, row{"", "", errDir, errDir, errTwice})
	add("/n n /d/n /e/n /d/e/n /ld/n /ld/e/n /lr/n /lr/ld/n /nobody /nobody/../n", "", errNone, ok, ok)
	add("/n/n /d/n/n /ln/n /lm/n /ld/n/n /nobody/n", "", errNone, errNone, errNone) // there is no directory in which it could be made
	add("/ln /lm /lr/ln ln", "", errNone, errTwice, errTwice)                       // a link that leads nowhere has the name
	add("/lo /lo/n /lr/lo", "", errLoop, errLoop, errLoop)
	add("/lx /lx/n", "", errForm, errForm, errForm)
	add("/lb /f/n /f/f /lf/n /d/f/n/n", "", errNotDir, errNotDir, errNotDir)
	for p, code := range noPaths() {
		out = append(out, row{p, "", code, code, code})
	}
	return out
}

// code: what an Open of it comes to, with a How that may be.
func (r row) code(how int) api.Errno {
	switch {
	case how&forOnly != 0:
		return r.only
	case how&forNew != 0:
		return r.new
	}
	return r.plain
}

// isOpen: behind these pairs, of which the last one opened a file with these bytes, it can be read and written through the handle as How says.
func isOpen(t *testing.T, l []pair, bytes string) {
	t.Helper()
	o, h := l[len(l)-1].ask, l[len(l)-1].want.Handle
	n := len(bytes)
	l = with(l, pair{status(o.Path), aFile(n)})
	switch o.How & both {
	case forRead:
		l = append(l, pair{all(h), data(bytes)}, pair{write(h, n, "new"), refused(errDenied)}, pair{status(o.Path), aFile(n)})
	case forWrite:
		l = append(l, pair{all(h), refused(errDenied)}, pair{write(h, n, "new"), sized(n + 3)}, pair{status(o.Path), aFile(n + 3)})
	case both:
		l = append(l, pair{all(h), data(bytes)}, pair{write(h, n, "new"), sized(n + 3)}, pair{all(h), data(bytes + "new")})
	}
	l = append(l, pair{shut(h), done}, pair{all(h), refused(errOld)}, pair{write(h, 0, "x"), refused(errOld)})
	isList(t, asks(l), wants(l))
}

func TestEachHowOfEachPath(t *testing.T) {
	for _, r := range rows() {
		for how := -3; how < 36; how++ {
			o := open(r.path, how)
			switch {
			case !slices.Contains(goodHows(), how):
				isNothing(t, asks(world()), o, errForm)
			case r.code(how) != ok:
				isNothing(t, asks(world()), o, r.code(how))
			case how&forEmpty != 0:
				isOpen(t, with(world(), pair{o, opened(next)}), "")
			default:
				isOpen(t, with(world(), pair{o, opened(next)}), r.bytes)
			}
		}
	}
}

func TestHowsThatAreNone(t *testing.T) {
	bad := []int{32, 33, 34, 35, 63, 64, 65, 127, 128, 129, 255, 256, 257, 256 + 3, 65536 + 3, 1<<31 + 3, 1<<32 + 3, math.MinInt64 + 3, -32 + 3, -64 + 7}
	for _, how := range append(bad, far()...) {
		for _, p := range []string{"/f", "/n", "/d", "/", "/n/n", "/ln", "/lo", "\x00", strings.Repeat("/", long+1)} {
			isNothing(t, asks(world()), open(p, how), errForm)
		}
	}
}

// TestWhatAnOpenLeaves: but for the file itself nothing is changed, and that has its bytes unless it is to be empty.
func TestWhatAnOpenLeaves(t *testing.T) {
	for _, how := range goodHows() {
		left, code := "abcde", ok
		switch {
		case how&forOnly != 0:
			code = errTwice
		case how&forEmpty != 0:
			left = ""
		}
		want := refused(code)
		if code == ok {
			want = opened(next)
		}
		for _, p := range []string{"/f", "/lf", "/lr/f"} {
			isPlay(t, with(world(), pair{open(p, how), want}, pair{status("/f"), aFile(len(left))}, pair{status("/d/f"), aFile(3)}, pair{list("/"), names(worldNames)}, pair{list("/d"), names("e f")}, pair{status("/lf"), aFile(len(left))})...)
		}
		if how&forNew == 0 {
			continue
		}
		for p, where := range map[string]string{"/n": "/n", "/d/n": "/d/n", "/ld/n": "/d/n", "/lr/e/n": "/e/n"} {
			isPlay(t, with(world(), pair{open(p, how), opened(next)}, pair{status(where), aFile(0)}, pair{mkdir(where), refused(errTwice)}, pair{open(p, how&^forOnly), opened(1)}, pair{open(p, both|forNew|forOnly), refused(errTwice)}, pair{remove(where), done}, pair{list("/"), names(worldNames)}, pair{list("/d"), names("e f")}, pair{list("/e"), names("")}, pair{status("/f"), aFile(5)})...)
		}
	}
}

// TestEmptyOnlyIfOpened: what refuses an Open keeps it from cutting the file off, and from making one.
func TestEmptyOnlyIfOpened(t *testing.T) {
	l := asks(with(world(), taken(next)...))
	for _, p := range []string{"/f", "/lf", "/ld/f", "/d/f", "/n", "/d/n"} {
		for how := -3; how < 36; how++ {
			code := errForm
			if slices.Contains(goodHows(), how) {
				code = errFull
			}
			isNothing(t, l, open(p, how), code)
		}
	}
	for _, how := range []int{forWrite | forNew | forOnly | forEmpty, both | forNew | forOnly | forEmpty} {
		isPlay(t, with(world(), pair{open("/f", how), refused(errTwice)}, pair{status("/f"), aFile(5)}, pair{open("/f", forRead), opened(next)}, pair{all(next), data("abcde")})...)
	}
}

func TestEmptyOfEachLength(t *testing.T) {
	for _, n := range []int{0, 1, 2, chunk, chunk + 1, 1000, most - 1, most} {
		for _, how := range goodHows() {
			left := n
			if how&forEmpty != 0 {
				left = 0
			}
			if how&forOnly == 0 {
				l := with(file("/f", 0, text(n)), pair{open("/f", how), opened(8)}, pair{status("/f"), aFile(left)}, pair{open("/f", both), opened(1)}, pair{read(1, 0, chunk), data(text(n)[:min(left, chunk)])}, pair{write(1, 200, ""), sized(max(left, 200))}, pair{read(1, 100, chunk), data((text(n)[:left] + strings.Repeat("\x00", 200))[100:][:chunk])})
				isList(t, asks(l), wants(l))
			}
		}
	}
	isPlay(t, with(file("/f", 0, "abcdef"), pair{open("/f", forRead), opened(8)}, pair{open("/f", forWrite|forEmpty), opened(1)}, pair{all(8), data("")}, pair{write(1, 4, "x"), sized(5)}, pair{all(8), data("\x00\x00\x00\x00x")}, pair{open("/f", both|forEmpty|forNew), opened(2)}, pair{all(8), data("")}, pair{all(2), data("")})...) // whoever has it open
}

// taken: handles of all places: that of the first one has this number, those of the others are the first ones there.
func taken(first int) []pair {
	out := []pair{{open("/f", both), opened(first)}}
	for h := 1; h < places; h++ {
		out = append(out, pair{open("/f", both), opened(h)})
	}
	return out
}

func TestNoPlaceIsFree(t *testing.T) {
	l := with(world(), taken(next)...)
	for _, r := range rows() {
		for _, how := range goodHows() {
			isNothing(t, asks(l), open(r.path, how), errFull)
		}
		for _, how := range []int{0, -1, 4, 8, 9, 16, 17, 31 &^ both, 32, 35} {
			isNothing(t, asks(l), open(r.path, how), errForm)
		}
	}
	isPlay(t, with(l, pair{open("/f", forRead), refused(errFull)}, pair{open("/d", forRead), refused(errFull)}, pair{open("/n", both|forNew), refused(errFull)}, pair{status("/n"), refused(errNone)}, pair{open("/n", 0), refused(errForm)}, pair{shut(4), done}, pair{open("/d", forRead), refused(errDir)}, pair{open("/n", both|forNew), opened(12)}, pair{open("/n", forRead), refused(errFull)}, pair{mkdir("/m"), done}, pair{status("/n"), aFile(0)})...)
}

// TestOpenInATreeThatIsFull: a link that leads nowhere is ErrTwice there, too, ahead of ErrFull.
func TestOpenInATreeThatIsFull(t *testing.T) {
	for _, r := range rows() {
		for _, how := range goodHows() {
			code := r.code(how)
			if r.plain == errNone && r.new == ok && how&forNew != 0 {
				code = errFull
			}
			o := open(r.path, how)
			switch {
			case code != ok:
				isNothing(t, asks(full()), o, code)
			case how&forEmpty != 0:
				isOpen(t, with(full(), pair{o, opened(next)}), "")
			default:
				isOpen(t, with(full(), pair{o, opened(next)}), r.bytes)
			}
		}
	}
	isPlay(t, with(full(), pair{open("/n", both|forNew), refused(errFull)}, pair{open("/n", both|forNew|forOnly), refused(errFull)}, pair{open("/n", both), refused(errNone)}, pair{remove("/ln"), done}, pair{open("/n", both|forNew), opened(next)}, pair{open("/m", both|forNew), refused(errFull)}, pair{open("/n", both|forNew), opened(1)})...)
	isPlay(t, with(join(full(), taken(next)), pair{open("/n", both|forNew), refused(errFull)}, pair{remove("/m0"), done}, pair{open("/n", both|forNew), refused(errFull)}, pair{mkdir("/m0"), done}, pair{shut(3), done}, pair{open("/n", both|forNew), refused(errFull)}, pair{remove("/m0"), done}, pair{open("/n", both|forNew), opened(11)})...)
}

// TestManyFilesThatAreMade: as many as the tree has room for, with the root.
func TestManyFilesThatAreMade(t *testing.T) {
	var l []pair
	for i := range nodes - 1 {
		l = append(l, pair{open(fmt.Sprint("/n", i), both|forNew), opened(places * i)}, pair{write(places*i, i, "x"), sized(i + 1)}, pair{shut(places * i), done})
	}
	h := places * (nodes - 1)
	l = append(l, pair{open("/more", both|forNew), refused(errFull)}, pair{open("/more", both), refused(errNone)}, pair{open("/n7", both|forNew), opened(h)}, pair{read(h, 7, 9), data("x")}, pair{remove("/n7"), done}, pair{open("/more", both|forNew), opened(1)}, pair{status("/"), aDir(nodes - 1)})
	isList(t, asks(l), wants(l))
}

// TestLinksOnTheWay: as Stat and Make find a path.
func TestLinksOnTheWay(t *testing.T) {
	chain := made(link("/l1", "t"), mkdir("/t"))
	for i := 2; i < 12; i++ {
		chain = append(chain, made(link(fmt.Sprint("/l", i), fmt.Sprint("l", i-1)))...)
	}
	for i := 1; i < 12; i++ {
		p := fmt.Sprintf("/l%d/f", i)
		if i > 8 { // links that lead on
			isPlay(t, with(chain, pair{open(p, both|forNew), refused(errLoop)}, pair{list("/t"), names("")})...)
			continue
		}
		isPlay(t, with(chain, pair{open(p, both), refused(errNone)}, pair{open(p, both|forNew), opened(0)}, pair{list("/t"), names("f")}, pair{write(0, 0, "abc"), sized(3)}, pair{open("/t/f", forRead), opened(1)}, pair{all(1), data("abc")})...)
	}
	var down []pair
	p := ""
	for range deep {
		p += "/a"
		down = append(down, pair{mkdir(p), done})
	}
	isPlay(t, with(down, pair{open(p+"/f", both|forNew), refused(errFull)}, pair{link("/l", p), done}, pair{open("/l/f", both|forNew), refused(errFull)}, pair{open("/l/f", forRead), refused(errFull)}, pair{mkdir("/l/f"), done}, pair{open("/l/f", both), refused(errFull)})...) // where a path leads to more names than may be, there is nothing that Stat finds, though a directory can be made
	isPlay(t, with(down[:deep-1], pair{open(p[:len(p)-2]+"/f", both|forNew), opened(0)}, pair{write(0, 0, "deep"), sized(4)}, pair{all(0), data("deep")}, pair{link("/l", p[:len(p)-2]), done}, pair{open("/l/f", forRead), opened(1)}, pair{all(1), data("deep")})...)
}
