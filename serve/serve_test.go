package serve_test

import (
	"bytes"
	"fmt"
	"math"
	"slices"
	"strings"
	"testing"

	"packthread/api"
	"packthread/serve"
)

// The limits, the kinds and the numbers of errors, written out: they must not move with the program.
const (
	events = 300
	wide   = 16  // bytes of a name
	deep   = 12  // names of a path
	long   = 200 // bytes of a path
	nodes  = 40  // of a tree
	most   = 2048
	places = 8
	chunk  = 100

	kindOpen     = 1
	kindShutdown = 2
	kindReadAt   = 3
	kindWriteAt  = 4
	kindStatus   = 5
	kindNames    = 6
	kindNewDir   = 7
	kindDelete   = 8
	kindMove     = 9
	kindSymlink  = 10

	forRead  = 1
	forWrite = 2
	forNew   = 4
	forOnly  = 8
	forEmpty = 16
	both     = forRead | forWrite

	isDir  = 1
	isFile = 2

	ok          = api.Errno(0)
	errSize     = api.Errno(1)
	errRange    = api.Errno(2)
	errKind     = api.Errno(3)
	errForm     = api.Errno(4)
	errNone     = api.Errno(7)
	errTwice    = api.Errno(8)
	errFull     = api.Errno(9)
	errOver     = api.Errno(11)
	errDenied   = api.Errno(12)
	errLoop     = api.Errno(13)
	errDir      = api.Errno(14)
	errNotDir   = api.Errno(15)
	errNotEmpty = api.Errno(16)
	errOld      = api.Errno(17)
)

// goodHows: all that there are, written out.
func goodHows() []int { return []int{1, 2, 3, 5, 6, 7, 13, 14, 15, 18, 19, 22, 23, 30, 31} }

// pair: a request, and what its reply should be, but for the Mark.
type pair struct {
	ask  api.Request
	want api.Reply
}

// Requests.

func open(p string, how int) api.Request { return api.Request{Kind: kindOpen, Path: p, How: how} }

func shut(h int) api.Request { return api.Request{Kind: kindShutdown, Handle: h} }

func read(h, at, n int) api.Request {
	return api.Request{Kind: kindReadAt, Handle: h, At: at, Count: n}
}

// all: as many bytes as are read at once, from the first one on.
func all(h int) api.Request { return read(h, 0, chunk) }

func write(h, at int, s string) api.Request {
	return api.Request{Kind: kindWriteAt, Handle: h, At: at, Data: []byte(s)}
}

func status(p string) api.Request { return api.Request{Kind: kindStatus, Path: p} }

func list(p string) api.Request { return api.Request{Kind: kindNames, Path: p} }

func mkdir(p string) api.Request { return api.Request{Kind: kindNewDir, Path: p} }

func remove(p string) api.Request { return api.Request{Kind: kindDelete, Path: p} }

func move(p, to string) api.Request { return api.Request{Kind: kindMove, Path: p, To: to} }

func link(p, to string) api.Request { return api.Request{Kind: kindSymlink, Path: p, To: to} }

// Replies.

var done api.Reply

func refused(code api.Errno) api.Reply { return api.Reply{Code: code} }

func opened(h int) api.Reply { return api.Reply{Handle: h} }

// sized: to a WriteAt.
func sized(n int) api.Reply { return api.Reply{Size: n} }

func data(s string) api.Reply { return api.Reply{Data: []byte(s)} }

func names(s string) api.Reply { return api.Reply{Names: strings.Fields(s)} }

func aDir(n int) api.Reply { return api.Reply{Kind: isDir, Size: n} }

func aFile(n int) api.Reply { return api.Reply{Kind: isFile, Size: n} }

// made: requests to which the reply is nothing but that they are done.
func made(l ...api.Request) (out []pair) {
	for _, r := range l {
		out = append(out, pair{r, done})
	}
	return out
}

// file: a file with bytes; h is the number of the handle through which they came, which is shut then.
func file(p string, h int, s string) []pair {
	l := []pair{{open(p, forWrite|forNew|forOnly), opened(h)}}
	for at := 0; at < len(s); at += chunk {
		to := min(len(s), at+chunk)
		l = append(l, pair{write(h, at, s[at:to]), sized(to)})
	}
	return append(l, pair{shut(h), done})
}

// with: these pairs behind those, in new memory.
func with(l []pair, more ...pair) []pair { return append(slices.Clone(l), more...) }

// join: lists of pairs one behind another.
func join(l ...[]pair) []pair { return slices.Concat(l...) }

func asks(l []pair) (out []api.Request) {
	for _, p := range l {
		out = append(out, p.ask)
	}
	return out
}

func wants(l []pair) (out []api.Reply) {
	for _, p := range l {
		out = append(out, p.want)
	}
	return out
}

// text: n bytes, of which one does not look as the next ones.
func text(n int) string {
	b := make([]byte, n)
	for i := range b {
		b[i] = byte(i*37 + i>>8*11 + 3)
	}
	return string(b)
}

// same: whether two replies are alike; without elements Data and Names may be nil or not.
func same(a, b api.Reply) bool {
	return a.Mark == b.Mark && a.Code == b.Code && a.Handle == b.Handle && a.Kind == b.Kind && a.Size == b.Size && bytes.Equal(a.Data, b.Data) && slices.Equal(a.Names, b.Names)
}

// short: a text, quoted; of a long one its beginning and its length.
func short(s string) string {
	if len(s) > 60 {
		return fmt.Sprintf("%q..%d", s[:40], len(s))
	}
	return fmt.Sprintf("%q", s)
}

func show(x api.Reply) string {
	return fmt.Sprintf("{Mark %d Code %d Handle %d Kind %d Size %d Data %s Names %q}", x.Mark, x.Code, x.Handle, x.Kind, x.Size, short(string(x.Data)), x.Names)
}

func shows(l []api.Reply, code api.Errno) string {
	s := fmt.Sprintln(len(l), code)
	for _, x := range l {
		s += fmt.Sprintf("%d %d %d %d %d %x %q\n", x.Mark, x.Code, x.Handle, x.Kind, x.Size, x.Data, x.Names)
	}
	return s
}

// sketch: a request in words.
func sketch(r api.Request) string {
	word := []string{"", "Open", "Shutdown", "ReadAt", "WriteAt", "Status", "Names", "NewDir", "Delete", "Move", "Symlink"}
	if r.Kind < kindOpen || r.Kind > kindSymlink {
		return fmt.Sprintf("Kind %d", r.Kind)
	}
	s := word[r.Kind]
	switch r.Kind {
	case kindOpen:
		return fmt.Sprintf("%s %s %d", s, short(r.Path), r.How)
	case kindShutdown:
		return fmt.Sprintf("%s %d", s, r.Handle)
	case kindReadAt:
		return fmt.Sprintf("%s %d %d %d", s, r.Handle, r.At, r.Count)
	case kindWriteAt:
		return fmt.Sprintf("%s %d %d %s", s, r.Handle, r.At, short(string(r.Data)))
	case kindMove, kindSymlink:
		return fmt.Sprintf("%s %s %s", s, short(r.Path), short(r.To))
	}
	return s + " " + short(r.Path)
}

func sketches(l []api.Request) string {
	var s []string
	for _, r := range l {
		s = append(s, sketch(r))
	}
	return strings.Join(s, "; ")
}

// mark: any number may be one, and two requests may have the same.
func mark(i int) int {
	return []int{i, -i, 7, 0, math.MaxInt64 - i, math.MinInt64 + i, 1<<32 + i, 65536}[i%8]
}

// isList: the replies to these requests are what is wanted, each with the Mark of its own.
func isList(t *testing.T, l []api.Request, want []api.Reply) {
	t.Helper()
	l, want = slices.Clone(l), slices.Clone(want)
	for i := range l {
		l[i].Mark, want[i].Mark = mark(i), mark(i)
	}
	got, code := serve.Play(l)
	if code != ok || len(got) != len(want) {
		t.Fatalf("Play(%s): %d told, %d; want %d", sketches(l), len(got), code, len(want))
	}
	for i := range got {
		if !same(got[i], want[i]) {
			t.Fatalf("Play(%s): %s, want %s", sketches(l[:i+1]), show(got[i]), show(want[i]))
		}
	}
}

// isPlay: the reply to each request is what stands beside it, also when nothing follows, whatever stands in what its kind does not name, and when all that is refused is left out.
func isPlay(t *testing.T, pairs ...pair) {
	t.Helper()
	var l, littered, kept []api.Request
	var want, left []api.Reply
	for i, p := range pairs {
		l, want = append(l, p.ask), append(want, p.want)
		littered = append(littered, litter(p.ask, i))
		isList(t, l, want)
		if p.want.Code == ok {
			kept, left = append(kept, p.ask), append(left, p.want)
		}
	}
	isList(t, littered, want)
	isList(t, kept, left)
}

// litter: a request with odd things in all that its kind does not name.
func litter(r api.Request, n int) api.Request {
	odd := []int{math.MinInt64, -1, 1, 2, most + 1, math.MaxInt64, 3}[n%7]
	path := []string{"/", "/d", "\x00", strings.Repeat("/", long+1), "/f", ""}[n%6]
	byPath := r.Kind == kindOpen || r.Kind >= kindStatus && r.Kind <= kindSymlink
	if !byPath {
		r.Path = path
	}
	if r.Kind != kindMove && r.Kind != kindSymlink {
		r.To = path
	}
	if r.Kind != kindOpen {
		r.How = odd
	}
	if r.Kind != kindShutdown && r.Kind != kindReadAt && r.Kind != kindWriteAt {
		r.Handle = odd
	}
	if r.Kind != kindReadAt && r.Kind != kindWriteAt {
		r.At = odd
	}
	if r.Kind != kindReadAt {
		r.Count = odd
	}
	if r.Kind != kindWriteAt {
		r.Data = make([]byte, (most+1)*(n%2)+(chunk+1)*(n%3)+n%9)
	}
	return r
}

// far: numbers beyond all bounds, some of which look small when bits are cut off.
func far() []int {
	return []int{
		most + 1, most + 2, 2 * most, 4096, 65535, 65536, 65537, 65536 + most, 1<<31 - 1, 1 << 31, 1<<31 + 1, 1<<32 - 1, 1 << 32, 1<<32 + 1, 1<<32 + 8, 1<<48 + 7, 1 << 62, math.MaxInt64 - 7, math.MaxInt64 - 1, math.MaxInt64,
		-1, -2, -3, -7, -8, -9, -16, -most, -65535, -65536, -1 << 31, -1<<31 + 5, -1<<32 + 5, -1 << 32, -1<<48 + 1, -1 << 62, math.MinInt64 + 8, math.MinInt64 + 1, math.MinInt64,
	}
}

// noPaths: what Clean refuses, and how.
func noPaths() map[string]api.Errno {
	return map[string]api.Errno{
		strings.Repeat("/", long+1):            errSize,
		"/f" + strings.Repeat("/", long):       errSize,
		strings.Repeat("\x00", long+1):         errSize,
		"/" + strings.Repeat("n", wide+1):      errForm,
		"/\x00":                                errForm,
		"/f/\x00":                              errForm,
		"\x00/..":                              errForm,
		strings.Repeat("/a", deep+1):           errFull,
		strings.Repeat("/a", deep+1) + "/..":   errFull,
		strings.Repeat("/a", deep) + "/b/\x00": errFull,
		strings.Repeat("/a", deep) + "/\x00":   errForm,
	}
}

// world: nodes of all kinds, and links that lead to all kinds of things. Handles of the place 0 were shut twice: next is the next one.
func world() []pair {
	return join(
		file("/f", 0, "abcde"), made(mkdir("/d"), mkdir("/d/e"), mkdir("/e")), file("/d/f", 8, "mid"),
		made(link("/lf", "f"), link("/ld", "d"), link("/ln", "nobody"), link("/lm", "nobody/n"), link("/lo", "lo"), link("/lr", "/"), link("/lx", strings.Repeat("x", wide+1)), link("/lb", "f/x")),
	)
}

const (
	worldNames = "d e f lb ld lf lm ln lo lr lx"
	next       = 16
)

// probes: requests that tell, behind those, all that there is in that world, what is open, and what the next handles are called.
func probes(before []api.Request) (out []api.Request) {
	for h := range 6 * places {
		out = append(out, all(h), write(h, 0, ""))
	}
	for _, p := range strings.Fields("/ /d /d/e /e /f /d/f /n /m /d/n /d/m /e/n /lf /ld /ln /lm /lo /lr /lx /lb /f/n /nobody") {
		out = append(out, list(p), status(p))
	}
	for _, p := range strings.Fields("/f /d/f /n /d/n /m /lf") {
		out = append(out, open(p, forRead))
		got, _ := serve.Play(slices.Concat(before, out))
		if x := got[len(got)-1]; x.Code == ok {
			out = append(out, all(x.Handle), shut(x.Handle))
		}
	}
	return append(out, slices.Repeat([]api.Request{open("/f", forRead)}, places)...)
}

// isNothing: behind these requests one is refused so, with nothing beside the code, and all there is is as if it had not been.
func isNothing(t *testing.T, before []api.Request, r api.Request, code api.Errno) {
	t.Helper()
	behind := probes(before)
	without, _ := serve.Play(slices.Concat(before, behind))
	if len(without) != len(before)+len(behind) {
		t.Fatalf("Play(%s ..): %d told", sketches(before), len(without))
	}
	for n := range 3 { // in the midst, and twice
		l, want := slices.Clone(before), slices.Clone(without[:len(before)])
		for range n {
			l, want = append(l, r), append(want, refused(code))
		}
		isList(t, append(l, behind...), append(want, without[len(before):]...))
	}
}

// P14.1: Play.

func TestNoRequestAtAll(t *testing.T) {
	for _, l := range [][]api.Request{nil, {}, make([]api.Request, 0, 9)} {
		if got, code := serve.Play(l); code != ok || len(got) != 0 {
			t.Fatalf("Play(): %d told, %d", len(got), code)
		}
	}
}

func TestAtFirst(t *testing.T) {
	for _, p := range []string{"/", "", ".", "..", "/nobody/.."} {
		isPlay(t, pair{list(p), names("")}, pair{status(p), aDir(0)}, pair{open(p, forRead), refused(errDir)}, pair{remove(p), refused(errDir)})
	}
	isPlay(t, pair{status("/f"), refused(errNone)}, pair{list("/f"), refused(errNone)}, pair{open("/f", both), refused(errNone)}, pair{shut(0), refused(errOld)}, pair{all(0), refused(errOld)}, pair{write(0, 0, "x"), refused(errOld)})
}

func TestAsManyRequestsAsMayBeAndOneMore(t *testing.T) {
	for _, r := range []api.Request{list("/"), mkdir("/d"), {}, {Kind: 99}, open("/f", forRead), open("/f", both|forNew), shut(0), all(0), write(-1, -1, ""), status(strings.Repeat("/", long+1))} {
		for _, n := range []int{events - 1, events} {
			got, code := serve.Play(slices.Repeat([]api.Request{r}, n))
			if code != ok || len(got) != n {
				t.Fatalf("%d of %s: %d told, %d", n, sketch(r), len(got), code)
			}
		}
		for _, n := range []int{events + 1, events + 2, 2 * events, 65536, 65536 + 5} {
			got, code := serve.Play(slices.Repeat([]api.Request{r}, n))
			if code != errSize || len(got) != 0 {
				t.Fatalf("%d of %s: %d told, %d", n, sketch(r), len(got), code)
			}
		}
	}
	l := []pair{{open("/f", both|forNew), opened(0)}}
	for n := range events - 1 {
		l = append(l, pair{write(0, n, "x"), sized(n + 1)})
	}
	isList(t, asks(l), wants(l))
}

func TestTheExample(t *testing.T) {
	isPlay(t,
		pair{open("/f", forRead), refused(errNone)},
		pair{open("/f", forWrite|forNew), opened(0)},
		pair{write(0, 0, "abc"), sized(3)},
		pair{read(0, 0, 2), refused(errDenied)},
		pair{open("/f", forRead), opened(1)},
		pair{read(1, 1, 9), data("bc")},
		pair{shut(0), done},
		pair{shut(0), refused(errOld)},
		pair{open("/f", forRead|forNew|forOnly), refused(errTwice)},
		pair{open("/f", forWrite|forEmpty), opened(8)},
		pair{status("/f"), aFile(0)},
		pair{mkdir("/d"), done},
		pair{list("/"), names("d f")},
		pair{open("/d", forRead), refused(errDir)},
		pair{open("/f", forNew), refused(errForm)},
		pair{write(1, 0, "x"), refused(errDenied)},
		pair{read(1, 0, 0), refused(errSize)},
		pair{api.Request{Kind: 11}, refused(errKind)},
	)
}

// TestEachKind: granted and refused, behind a world in which the next handle is open.
func TestEachKind(t *testing.T) {
	l := with(world(), pair{open("/f", both), opened(next)})
	before := asks(l)
	for _, p := range []pair{
		{open("/f", forRead), opened(1)}, {open("/n", forWrite|forNew), opened(1)}, {open("/d/f", forWrite|forEmpty), opened(1)}, {open("/lf", both), opened(1)},
		{shut(next), done},
		{read(next, 1, 3), data("bcd")}, {read(next, 5, 3), data("")}, {read(next, most, chunk), data("")},
		{write(next, 4, "xyz"), sized(7)}, {write(next, 0, "x"), sized(5)}, {write(next, 0, ""), sized(5)},
		{status("/"), aDir(11)}, {status("/d"), aDir(2)}, {status("/e"), aDir(0)}, {status("/f"), aFile(5)}, {status("/lf"), aFile(5)}, {status("/ld/f"), aFile(3)}, {status("/lr"), aDir(11)},
		{list("/"), names(worldNames)}, {list("/d"), names("e f")}, {list("/e"), names("")}, {list("/ld"), names("e f")}, {list("/ld/e"), names("")},
		{mkdir("/n"), done}, {mkdir("/ld/n"), done},
		{remove("/f"), done}, {remove("/e"), done}, {remove("/lf"), done}, {remove("/ln"), done}, {remove("/lo"), done},
		{move("/f", "/n"), done}, {move("/d", "/e/n"), done}, {move("/lf", "/d/n"), done}, {move("/lo", "/n"), done},
		{link("/n", "/f"), done}, {link("/d/n", "\x00"), done}, {link("/n", strings.Repeat("/", long)), done},
	} {
		isPlay(t, with(l, p)...)
	}
	for _, p := range []pair{
		{open("/n", both), refused(errNone)}, {open("/f", 0), refused(errForm)}, {open("/d", forRead), refused(errDir)}, {open("/f", both|forNew|forOnly), refused(errTwice)},
		{shut(1), refused(errOld)}, {read(1, 0, 1), refused(errOld)}, {write(1, 0, ""), refused(errOld)},
		{read(next, 0, 0), refused(errSize)}, {read(next, -1, 1), refused(errRange)}, {read(next, most+1, 1), refused(errRange)},
		{write(next, 0, text(chunk+1)), refused(errSize)}, {write(next, -1, ""), refused(errRange)}, {write(next, most, "x"), refused(errOver)},
		{status("/n"), refused(errNone)}, {status("/f/n"), refused(errNotDir)}, {status("/lo"), refused(errLoop)}, {status("/lx"), refused(errForm)},
		{list("/f"), refused(errNotDir)}, {list("/n"), refused(errNone)}, {list("/lf"), refused(errNotDir)},
		{mkdir("/"), refused(errTwice)}, {mkdir("/f"), refused(errTwice)}, {mkdir("/f/n"), refused(errNotDir)}, {mkdir("/n/n"), refused(errNone)}, {mkdir("/ln"), refused(errTwice)},
		{remove("/"), refused(errDir)}, {remove("/d"), refused(errNotEmpty)}, {remove("/n"), refused(errNone)}, {remove("/f/n"), refused(errNotDir)},
		{move("/", "/n"), refused(errDir)}, {move("/n", "/m"), refused(errNone)}, {move("/f", "/"), refused(errTwice)}, {move("/f", "/e"), refused(errTwice)}, {move("/d", "/d/n"), refused(errForm)}, {move("/f", "/f/n"), refused(errNotDir)},
		{link("/n", ""), refused(errSize)}, {link("/", ""), refused(errSize)}, {link("/n", strings.Repeat("/", long+1)), refused(errSize)}, {link("/f", "x"), refused(errTwice)}, {link("/", "x"), refused(errTwice)}, {link("/n/n", "x"), refused(errNone)},
		{api.Request{Kind: 0}, refused(errKind)}, {api.Request{Kind: 11}, refused(errKind)},
	} {
		isPlay(t, with(l, p)...)
		isNothing(t, before, p.ask, p.want.Code)
	}
	for p, code := range noPaths() {
		for _, r := range []api.Request{open(p, both|forNew), status(p), list(p), mkdir(p), remove(p), move(p, "/n"), move("/f", p), link(p, "f")} {
			isPlay(t, with(l, pair{r, refused(code)})...)
			isNothing(t, before, r, code)
		}
	}
}

func TestNoSuchKind(t *testing.T) {
	before := asks(with(world(), pair{open("/f", both), opened(next)}))
	for _, kind := range append([]int{0, 11, 12, 13, 31, 255, 256, 257, 256 + 2}, far()...) {
		for n := range 12 {
			r := litter(api.Request{Kind: kind, Handle: next, At: 1, Count: 1}, n)
			isList(t, []api.Request{r}, []api.Reply{refused(errKind)})
			r.Handle = next
			isNothing(t, before, r, errKind)
		}
	}
}

// TestWhatAKindDoesNotName: it is not looked at, whatever stands there, one field at a time and all together.
func TestWhatAKindDoesNotName(t *testing.T) {
	l := with(world(), pair{open("/f", both), opened(next)}, pair{open("/d/f", forRead), opened(1)})
	named := map[int]string{kindOpen: "Path How", kindShutdown: "Handle", kindReadAt: "Handle At Count", kindWriteAt: "Handle At Data", kindStatus: "Path", kindNames: "Path", kindNewDir: "Path", kindDelete: "Path", kindMove: "Path To", kindSymlink: "Path To"}
	set := map[string]func(r *api.Request, n int){
		"Path": func(r *api.Request, n int) {
			r.Path = []string{"/", "/d/f", "/n", "\x00", strings.Repeat("/", long+1)}[n%5]
		},
		"To": func(r *api.Request, n int) {
			r.To = []string{"/", "/d/f", "/n", "\x00", strings.Repeat("/", long+1)}[n%5]
		},
		"How":    func(r *api.Request, n int) { r.How = append([]int{1, 2, 3, 4, 31, 32}, far()...)[n] },
		"Handle": func(r *api.Request, n int) { r.Handle = append([]int{0, 1, next, 8, 9}, far()...)[n] },
		"At":     func(r *api.Request, n int) { r.At = append([]int{1, 2, most}, far()...)[n] },
		"Count":  func(r *api.Request, n int) { r.Count = append([]int{1, chunk, chunk + 1}, far()...)[n] },
		"Data":   func(r *api.Request, n int) { r.Data = []byte(text([]int{1, chunk, chunk + 1, most + 1, 65536}[n%5])) },
	}
	for _, p := range []pair{
		{open("/f", forRead), opened(2)}, {open("/n", forRead), refused(errNone)}, {open("/n", forWrite|forNew), opened(2)}, {shut(next), done}, {shut(0), refused(errOld)},
		{read(next, 1, 2), data("bc")}, {read(1, 0, 9), data("mid")}, {read(0, 0, 1), refused(errOld)}, {write(next, 5, "f"), sized(6)}, {write(1, 0, "x"), refused(errDenied)},
		{status("/f"), aFile(5)}, {status("/n"), refused(errNone)}, {list("/d"), names("e f")}, {list("/f"), refused(errNotDir)},
		{mkdir("/n"), done}, {mkdir("/f"), refused(errTwice)}, {remove("/f"), done}, {remove("/d"), refused(errNotEmpty)}, {move("/f", "/n"), done}, {move("/f", "/e"), refused(errTwice)}, {link("/n", "x"), done}, {link("/f", "x"), refused(errTwice)},
	} {
		behind := probes(asks(with(l, p)))
		plain, _ := serve.Play(append(asks(with(l, p)), behind...))
		for n := range 30 {
			every := p.ask
			for field, odd := range set {
				if slices.Contains(strings.Fields(named[p.ask.Kind]), field) {
					continue
				}
				one := p.ask
				odd(&one, n)
				odd(&every, n)
				isList(t, append(append(asks(l), one), behind...), plain)
			}
			isList(t, append(append(asks(l), every), behind...), plain)
		}
		isPlay(t, with(l, p)...)
	}
}

// TestTheMarkOfEach: it is told of what is granted and of what is refused, and says nothing about anything else.
func TestTheMarkOfEach(t *testing.T) {
	l := with(world(), pair{open("/f", both), opened(next)}, pair{write(next, 0, "x"), sized(5)}, pair{all(next), data("xbcde")}, pair{all(3), refused(errOld)}, pair{open("/n", 99), refused(errForm)}, pair{open("/n", both|forNew), opened(1)}, pair{status("/n"), aFile(0)}, pair{status("/m"), refused(errNone)}, pair{list("/d"), names("e f")}, pair{api.Request{Kind: -1}, refused(errKind)}, pair{shut(1), done}, pair{shut(1), refused(errOld)})
	for _, m := range append([]int{0, 1, 2, 255, 256, 65535, 1<<31 - 1}, far()...) {
		r, want := asks(l), wants(l)
		for i := range r {
			r[i].Mark, want[i].Mark = m, m
		}
		got, code := serve.Play(r)
		if code != ok || !slices.EqualFunc(got, want, same) {
			t.Fatalf("with the Mark %d: %s", m, shows(got, code))
		}
	}
}

// TestAllOfTheTree: what those requests do that need no handle, one behind another.
func TestAllOfTheTree(t *testing.T) {
	isPlay(t, with(world(), pair{mkdir("/e/a"), done}, pair{mkdir("/ld/e/b"), done}, pair{list("/e"), names("a")}, pair{list("/d/e"), names("b")}, pair{move("/e", "/d/e/b/c"), done}, pair{status("/e"), refused(errNone)}, pair{list("/d/e/b/c"), names("a")}, pair{remove("/d/e/b/c"), refused(errNotEmpty)}, pair{remove("/d/e/b/c/a"), done}, pair{remove("/d/e/b/c"), done}, pair{status("/d/e/b"), aDir(0)}, pair{link("/d/e/up", "../.."), done}, pair{list("/d/e/up"), names("d f lb ld lf lm ln lo lr lx")}, pair{status("/d/e/up/f"), aFile(5)}, pair{remove("/d/e/up"), done}, pair{status("/"), aDir(10)})...)
	isPlay(t, with(world(), pair{move("/f", "/nobody"), done}, pair{status("/ln"), aFile(5)}, pair{status("/lf"), refused(errNone)}, pair{link("/f", "d/f"), done}, pair{status("/lf"), aFile(3)}, pair{move("/f", "/d/g"), done}, pair{status("/d/g"), refused(errNone)}, pair{remove("/d/g"), done}, pair{remove("/d/f"), done}, pair{status("/d"), aDir(1)})...)
}

// full: that world, with as many nodes as may be, the root too.
func full() []pair {
	l := world()
	for i := range nodes - 14 {
		l = append(l, made([]api.Request{mkdir(fmt.Sprint("/m", i)), link(fmt.Sprint("/e/m", i), "x")}[i%2])...)
	}
	return l
}

func TestATreeThatIsFull(t *testing.T) {
	isPlay(t, with(full(), pair{mkdir("/n"), refused(errFull)}, pair{link("/n", "f"), refused(errFull)}, pair{mkdir("/f"), refused(errTwice)}, pair{remove("/m0"), done}, pair{link("/n", "f"), done}, pair{mkdir("/m"), refused(errFull)}, pair{move("/n", "/m"), done}, pair{status("/m"), aFile(5)})...)
}
