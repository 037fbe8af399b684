package tree_test

import (
	"bytes"
	"fmt"
	"math"
	"slices"
	"strings"
	"testing"

	"packthread/api"
	"packthread/tree"
)

// The limits, the kinds and the numbers of errors, written out: they must not move with the program.
const (
	events = 300
	wide   = 16  // bytes of a name
	deep   = 12  // names of a path
	long   = 200 // bytes of a path
	links  = 8   // that lead on
	nodes  = 40  // of a tree
	most   = 2048

	kindMkdir  = 1
	kindMake   = 2
	kindPut    = 3
	kindGet    = 4
	kindCut    = 5
	kindStat   = 6
	kindList   = 7
	kindRemove = 8
	kindRename = 9
	kindLink   = 10

	isDir  = 1
	isFile = 2
	isSym  = 3 // told of none, as links are followed

	ok          = api.Errno(0)
	errSize     = api.Errno(1)
	errRange    = api.Errno(2)
	errKind     = api.Errno(3)
	errForm     = api.Errno(4)
	errNone     = api.Errno(7)
	errTwice    = api.Errno(8)
	errFull     = api.Errno(9)
	errOver     = api.Errno(11)
	errLoop     = api.Errno(13)
	errDir      = api.Errno(14)
	errNotDir   = api.Errno(15)
	errNotEmpty = api.Errno(16)
)

// pair: an act, and what it should come to.
type pair struct {
	act  api.Act
	want api.Seen
}

// Acts.

func mkdir(p string) api.Act { return api.Act{Kind: kindMkdir, Path: p} }

func create(p string) api.Act { return api.Act{Kind: kindMake, Path: p} }

func link(p, to string) api.Act { return api.Act{Kind: kindLink, Path: p, To: to} }

func put(p string, at int, data string) api.Act {
	return api.Act{Kind: kindPut, Path: p, At: at, Data: []byte(data)}
}

func get(p string, at, n int) api.Act { return api.Act{Kind: kindGet, Path: p, At: at, Count: n} }

// all: a Get of all that a file may have.
func all(p string) api.Act { return get(p, 0, most) }

func cut(p string, n int) api.Act { return api.Act{Kind: kindCut, Path: p, Count: n} }

func stat(p string) api.Act { return api.Act{Kind: kindStat, Path: p} }

func list(p string) api.Act { return api.Act{Kind: kindList, Path: p} }

func remove(p string) api.Act { return api.Act{Kind: kindRemove, Path: p} }

func rename(p, to string) api.Act { return api.Act{Kind: kindRename, Path: p, To: to} }

// What acts come to.

var done api.Seen

func refused(code api.Errno) api.Seen { return api.Seen{Code: code} }

// sized: of a Put or a Cut.
func sized(n int) api.Seen { return api.Seen{Size: n} }

func data(s string) api.Seen { return api.Seen{Data: []byte(s)} }

func names(s string) api.Seen { return api.Seen{Names: strings.Fields(s)} }

func aDir(n int) api.Seen { return api.Seen{Kind: isDir, Size: n} }

func aFile(n int) api.Seen { return api.Seen{Kind: isFile, Size: n} }

// made: acts that come to nothing but that they are done.
func made(l ...api.Act) (out []pair) {
	for _, a := range l {
		out = append(out, pair{a, done})
	}
	return out
}

// file: a file with bytes.
func file(p, s string) []pair {
	return []pair{{create(p), done}, {put(p, 0, s), sized(len(s))}}
}

// with: these pairs behind those, in new memory.
func with(l []pair, more ...pair) []pair { return append(slices.Clone(l), more...) }

// join: lists of pairs one behind another.
func join(l ...[]pair) []pair { return slices.Concat(l...) }

func acts(l []pair) (out []api.Act) {
	for _, p := range l {
		out = append(out, p.act)
	}
	return out
}

func wants(l []pair) (out []api.Seen) {
	for _, p := range l {
		out = append(out, p.want)
	}
	return out
}

// same: whether two of what acts come to are alike; without elements Data and Names may be nil or not.
func same(a, b api.Seen) bool {
	return a.Code == b.Code && a.Kind == b.Kind && a.Size == b.Size && bytes.Equal(a.Data, b.Data) && slices.Equal(a.Names, b.Names)
}

// short: a text, quoted; of a long one its beginning and its length.
func short(s string) string {
	if len(s) > long+40 {
		return fmt.Sprintf("%q..%d", s[:40], len(s))
	}
	return fmt.Sprintf("%q", s)
}

func show(x api.Seen) string {
	return fmt.Sprintf("{Code %d Kind %d Size %d Data %s Names %q}", x.Code, x.Kind, x.Size, short(string(x.Data)), x.Names)
}

func shows(l []api.Seen, code api.Errno) string {
	s := fmt.Sprintln(len(l), code)
	for _, x := range l {
		s += fmt.Sprintf("%d %d %d %x %q\n", x.Code, x.Kind, x.Size, x.Data, x.Names)
	}
	return s
}

// sketch: an act in words.
func sketch(a api.Act) string {
	word := []string{"Kind", "Mkdir", "Make", "Put", "Get", "Cut", "Stat", "List", "Remove", "Rename", "Link"}
	if a.Kind < kindMkdir || a.Kind > kindLink {
		return fmt.Sprintf("Kind %d", a.Kind)
	}
	s := word[a.Kind] + " " + short(a.Path)
	switch a.Kind {
	case kindRename, kindLink:
		s += " " + short(a.To)
	case kindPut:
		s += fmt.Sprintf(" %d %s", a.At, short(string(a.Data)))
	case kindGet:
		s += fmt.Sprintf(" %d %d", a.At, a.Count)
	case kindCut:
		s += fmt.Sprintf(" %d", a.Count)
	}
	return s
}

func sketches(l []api.Act) string {
	var s []string
	for _, a := range l {
		s = append(s, sketch(a))
	}
	return strings.Join(s, "; ")
}

// isList: these acts come to what is wanted.
func isList(t *testing.T, l []api.Act, want []api.Seen) {
	t.Helper()
	got, code := tree.Play(l)
	if code != ok || len(got) != len(want) {
		t.Fatalf("Play(%s): %d told, %d; want %d", sketches(l), len(got), code, len(want))
	}
	for i := range got {
		if !same(got[i], want[i]) {
			t.Fatalf("Play(%s): %s, want %s", sketches(l[:i+1]), show(got[i]), show(want[i]))
		}
	}
}

// isPlay: each act comes to what stands beside it, also when nothing follows, whatever stands in what its kind does not have, and when all that is refused is left out.
func isPlay(t *testing.T, pairs ...pair) {
	t.Helper()
	var l, littered, kept []api.Act
	var want, left []api.Seen
	for i, p := range pairs {
		l, want = append(l, p.act), append(want, p.want)
		littered = append(littered, litter(p.act, i))
		isList(t, l, want)
		if p.want.Code == ok {
			kept, left = append(kept, p.act), append(left, p.want)
		}
	}
	isList(t, littered, want)
	isList(t, kept, left)
}

// litter: an act with odd things in all that its kind does not have.
func litter(a api.Act, n int) api.Act {
	odd := []int{math.MinInt64, -1, 1, most + 1, math.MaxInt64}[n%5]
	if a.Kind < kindMkdir || a.Kind > kindLink {
		a.Path = []string{"/", "/d", "\x00", strings.Repeat("/", long+1)}[n%4]
	}
	if a.Kind != kindRename && a.Kind != kindLink {
		a.To = []string{"/", "/e", "\x00", strings.Repeat("/", long+1), "", "f"}[n%6]
	}
	if a.Kind != kindPut && a.Kind != kindGet {
		a.At = odd
	}
	if a.Kind != kindGet && a.Kind != kindCut {
		a.Count = odd
	}
	if a.Kind != kindPut {
		a.Data = make([]byte, (most+1)*(n%2)+n%9)
	}
	return a
}

// far: numbers beyond all bounds, some of which look small when bits are cut off.
func far() []int {
	return []int{
		most + 1, most + 2, 2 * most, 4096, 65535, 65536, 65537, 65536 + most, 1<<31 - 1, 1 << 31, 1<<31 + 1, 1<<32 - 1, 1 << 32, 1<<32 + 1, 1<<32 + most, 1<<48 + 7, 1 << 62, math.MaxInt64 - most, math.MaxInt64 - 1, math.MaxInt64,
		-1, -2, -3, -most, -65535, -65536, -1 << 31, -1<<31 + 5, -1<<32 + 5, -1 << 32, -1<<48 + 1, -1 << 62, math.MinInt64 + most, math.MinInt64 + 1, math.MinInt64,
	}
}

func noKinds() []int { return append([]int{0, 11, 12, 13, 255, 256, 257, 256 + 2, 65537}, far()...) }

// noPaths: what Clean refuses, and how.
func noPaths() map[string]api.Errno {
	return map[string]api.Errno{
		strings.Repeat("/", long+1):            errSize,
		strings.Repeat("a/../", 41):            errSize,
		strings.Repeat("\x00", long+1):         errSize,
		"/" + strings.Repeat("n", wide+1):      errForm,
		"/d/" + strings.Repeat("n", wide+1):    errForm,
		"/\x00":                                errForm,
		"/d/f\x00":                             errForm,
		"\x00/..":                              errForm,
		"/f/\x00":                              errForm,
		strings.Repeat("/a", deep+1):           errFull,
		strings.Repeat("/a", deep+1) + "/..":   errFull,
		"/d" + strings.Repeat("/f", deep):      errFull,
		strings.Repeat("/a", deep) + "/b/\x00": errFull,
		strings.Repeat("/a", deep) + "/\x00":   errForm,
	}
}

// P12.1: Play.

func TestNoActAtAll(t *testing.T) {
	for _, l := range [][]api.Act{nil, {}, make([]api.Act, 0, 9)} {
		if got, code := tree.Play(l); code != ok || len(got) != 0 {
			t.Fatalf("Play(): %d told, %d", len(got), code)
		}
	}
}

func TestAtFirst(t *testing.T) {
	for _, p := range []string{"/", "", ".", "..", "//", "/.", "/..", "../..", "/a/..", "a/b/../.."} {
		isPlay(t, pair{list(p), names("")}, pair{stat(p), aDir(0)}, pair{get(p, 0, 0), refused(errDir)}, pair{remove(p), refused(errDir)})
	}
	isPlay(t, pair{stat("/a"), refused(errNone)}, pair{list("/a"), refused(errNone)}, pair{stat("/a/b"), refused(errNone)})
}

func TestAsManyActsAsMayBeAndOneMore(t *testing.T) {
	for _, a := range []api.Act{list("/"), mkdir("/d"), {}, {Kind: 99}, get("/f", -1, -1), stat(strings.Repeat("/", long+1))} {
		for _, n := range []int{events - 1, events} {
			got, code := tree.Play(slices.Repeat([]api.Act{a}, n))
			if code != ok || len(got) != n {
				t.Fatalf("%d of %s: %d told, %d", n, sketch(a), len(got), code)
			}
		}
		for _, n := range []int{events + 1, events + 2, 2 * events, 65536, 65536 + 5} {
			got, code := tree.Play(slices.Repeat([]api.Act{a}, n))
			if code != errSize || len(got) != 0 {
				t.Fatalf("%d of %s: %d told, %d", n, sketch(a), len(got), code)
			}
		}
	}
	l := slices.Repeat([]pair{{put("/f", 3, "x"), sized(4)}, {cut("/f", 1), sized(1)}}, events/2)
	l[0] = pair{create("/f"), done}
	isList(t, acts(l), wants(l))
}

func TestTheExample(t *testing.T) {
	isPlay(t,
		pair{mkdir("/d"), done},
		pair{create("/d/f"), done},
		pair{put("/d/f", 2, "xy"), sized(4)},
		pair{get("/d/f", 1, 9), data("\x00xy")},
		pair{link("/l", "d/f"), done},
		pair{link("/d/up", ".."), done},
		pair{get("/d/up/l", 0, 3), data("\x00\x00x")},
		pair{list("/d"), names("f up")},
		pair{stat("/d"), aDir(2)},
		pair{stat("/l"), aFile(4)},
		pair{remove("/d"), refused(errNotEmpty)},
		pair{rename("/d", "/d/e"), refused(errForm)},
		pair{rename("/d/f", "/g"), done},
		pair{stat("/l"), refused(errNone)},
		pair{remove("/l"), done},
		pair{list("/"), names("d g")},
		pair{create("/g/h"), refused(errNotDir)},
		pair{mkdir("/"), refused(errTwice)},
		pair{link("/o", "/o"), done},
		pair{stat("/o"), refused(errLoop)},
		pair{cut("/g", 1), sized(1)},
		pair{list("/g"), refused(errNotDir)},
		pair{put("/g", 2049, ""), refused(errRange)},
		pair{remove("/nobody"), refused(errNone)},
		pair{api.Act{Kind: 11, Path: "/"}, refused(errKind)},
	)
}

func TestNoSuchKind(t *testing.T) {
	for _, kind := range noKinds() {
		for _, p := range []string{"", "/", "/d", "/d/f", "/nobody", "\x00", strings.Repeat("/", long+1)} {
			odd := api.Act{Kind: kind, Path: p, To: p, At: -1, Count: -1, Data: []byte("abc")}
			isList(t, []api.Act{odd}, []api.Seen{refused(errKind)})
			l := with(world(), pair{odd, refused(errKind)}, pair{odd, refused(errKind)}, pair{list("/d"), names("e f")}, pair{list("/"), names(worldNames)}, pair{all("/d/f"), data("mid")})
			isList(t, acts(l), wants(l))
		}
	}
}

// world: nodes of all kinds, and links that lead to all kinds of things.
func world() []pair {
	return join(
		made(mkdir("/d"), mkdir("/d/e"), mkdir("/e")), file("/d/f", "mid"), file("/f", "abcde"),
		made(link("/lf", "f"), link("/ld", "d"), link("/le", "/e"), link("/ln", "nobody"), link("/lo", "lo"), link("/lr", "/"), link("/lx", strings.Repeat("x", wide+1)), link("/lb", "f/x")),
	)
}

const worldNames = "d e f lb ld le lf ln lo lr lx"

// probes: acts that tell all that there is in that world.
func probes() (out []api.Act) {
	for _, p := range strings.Fields("/ /d /d/e /e /f /d/f /n /m /d/n /d/m /e/n /lf /ld /le /ln /lo /lr /lx /lb /f/n /d/f/n /d/d /e/d") {
		out = append(out, list(p), stat(p), all(p))
	}
	return out
}

// isNothing: behind these acts one is refused so, with nothing beside the code, and all there is is as if it had not been.
func isNothing(t *testing.T, before []api.Act, a api.Act, code api.Errno) {
	t.Helper()
	without, _ := tree.Play(append(slices.Clone(before), probes()...))
	if len(without) != len(before)+len(probes()) {
		t.Fatalf("Play(%s ..): %d told", sketches(before), len(without))
	}
	for n := range 3 { // in the midst, and twice
		l, want := slices.Clone(before), slices.Clone(without[:len(before)])
		for range n {
			l, want = append(l, a), append(want, refused(code))
		}
		isList(t, append(l, probes()...), append(want, without[len(before):]...))
	}
}

// row: a path of that world, and what acts on it come to; add: a Mkdir, a Make and a Link; work: a Put, a Get and a Cut.
type row struct {
	path                                    string
	add, work, stat, list, remove, relocate api.Errno
}

func each(p string, code api.Errno) row { return row{p, code, code, code, code, code, code} }

func rows() []row {
	out := []row{
		{"/d", errTwice, errDir, ok, ok, errNotEmpty, ok},
		{"/e", errTwice, errDir, ok, ok, ok, ok},
		{"/d/e", errTwice, errDir, ok, ok, ok, ok},
		{"/f", errTwice, ok, ok, errNotDir, ok, ok},
		{"/d/f", errTwice, ok, ok, errNotDir, ok, ok},
		{"/lf", errTwice, ok, ok, errNotDir, ok, ok},
		{"/ld", errTwice, errDir, ok, ok, ok, ok},
		{"/le", errTwice, errDir, ok, ok, ok, ok},
		{"/lr", errTwice, errDir, ok, ok, ok, ok},
		{"/ln", errTwice, errNone, errNone, errNone, ok, ok},
		{"/lo", errTwice, errLoop, errLoop, errLoop, ok, ok},
		{"/lx", errTwice, errForm, errForm, errForm, ok, ok},
		{"/lb", errTwice, errNotDir, errNotDir, errNotDir, ok, ok},
		{"/ld/f", errTwice, ok, ok, errNotDir, ok, ok},
		{"/ld/e", errTwice, errDir, ok, ok, ok, ok},
		{"/lr/d", errTwice, errDir, ok, ok, errNotEmpty, ok},
		{"/lr/lf", errTwice, ok, ok, errNotDir, ok, ok},
		{"/lr/lo", errTwice, errLoop, errLoop, errLoop, ok, ok},
		{"/lr/lr/ld/f", errTwice, ok, ok, errNotDir, ok, ok},
		each("/n/n", errNone), each("/d/n/n", errNone), each("/n/n/n/n", errNone), each("/ln/n", errNone), each("/e/f/n", errNone),
		each("/f/n", errNotDir), each("/f/n/n", errNotDir), each("/f/f", errNotDir), each("/d/f/f", errNotDir), each("/lf/n", errNotDir), each("/ld/f/n", errNotDir), each("/lb/n", errNotDir),
		each("/lo/n", errLoop), each("/lo/lo", errLoop), each("/lx/n", errForm), each("/lr/lx/n", errForm),
	}
	for _, p := range []string{"/", "", ".", "..", "/d/..", "/nobody/..", "/f/..", "/../.", "f/n/../.."} {
		out = append(out, row{p, errTwice, errDir, ok, ok, errDir, errDir})
	}
	for _, p := range []string{"/n", "n", "/D", "/d/n", "d/n/", "/e/n", "/ld/n", "/le/n", "/lr/n", "/ld/e/n", "/nobody/../n", "/f/../n", "/../n"} {
		out = append(out, row{p, ok, errNone, errNone, errNone, errNone, errNone})
	}
	for p, code := range noPaths() {
		out = append(out, each(p, code))
	}
	return out
}

func TestEachActOnEachNode(t *testing.T) {
	before := acts(world())
	isPlay(t, world()...)
	try := func(a api.Act, code api.Errno) {
		t.Helper()
		if code != ok {
			isNothing(t, before, a, code)
			return
		}
		got, e := tree.Play(append(slices.Clone(before), a))
		if e != ok || len(got) != len(before)+1 || got[len(before)].Code != ok {
			t.Fatalf("Play(%s; %s): %s %d", sketches(before), sketch(a), show(got[len(got)-1]), e)
		}
	}
	for _, r := range rows() {
		for _, a := range []api.Act{mkdir(r.path), create(r.path), link(r.path, "/f"), link(r.path, "\x00")} {
			try(a, r.add)
		}
		for _, a := range []api.Act{put(r.path, 0, "new"), put(r.path, 9, ""), get(r.path, 0, 9), get(r.path, 0, 0), cut(r.path, 0), cut(r.path, 9)} {
			try(a, r.work)
		}
		try(stat(r.path), r.stat)
		try(list(r.path), r.list)
		try(remove(r.path), r.remove)
		try(rename(r.path, "/m"), r.relocate)
		try(rename(r.path, "/e/../m"), r.relocate)
	}
}
