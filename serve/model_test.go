package serve_test

import (
	"maps"
	"slices"
	"strings"
	"testing"

	"packthread/api"
	"packthread/tree"
)

// model: one who serves, who knows what was done to the tree, what is open, by number, and which numbers were shut.
type model struct {
	done []api.Act
	open map[int]api.Request
	shut []int
}

func newModel() model { return model{open: map[int]api.Request{}} }

func (m model) clone() model {
	return model{slices.Clone(m.done), maps.Clone(m.open), slices.Clone(m.shut)}
}

// act: what one more act on the tree comes to.
func (m *model) act(a api.Act) api.Reply {
	l := append(slices.Clone(m.done), a)
	got, _ := tree.Play(l)
	x := got[len(l)-1]
	if x.Code == ok && a.Kind != api.Get && a.Kind != api.Stat && a.Kind != api.List {
		m.done = l
	}
	return api.Reply{Code: x.Code, Kind: x.Kind, Size: x.Size, Data: x.Data, Names: x.Names}
}

// number: what the next handle is called; false: no place is free.
func (m *model) number() (int, bool) {
	for at := range places {
		isThere := func(h int) bool { return h%places == at }
		if slices.ContainsFunc(slices.Collect(maps.Keys(m.open)), isThere) {
			continue
		}
		often := 0
		for _, h := range m.shut {
			if isThere(h) {
				often++
			}
		}
		return at + places*often, true
	}
	return 0, false
}

func (m *model) openOne(r api.Request) api.Reply {
	h, isFree := m.number()
	if !slices.Contains(goodHows(), r.How) {
		return refused(errForm)
	}
	if !isFree {
		return refused(errFull)
	}
	x := m.act(api.Act{Kind: api.Stat, Path: r.Path})
	switch {
	case x.Code == ok && r.How&forOnly != 0:
		return refused(errTwice)
	case x.Kind == isDir:
		return refused(errDir)
	case x.Code == errNone && r.How&forNew != 0:
		x = m.act(api.Act{Kind: api.Make, Path: r.Path})
	}
	if x.Code != ok {
		return refused(x.Code)
	}
	if r.How&forEmpty != 0 {
		m.act(api.Act{Kind: api.Cut, Path: r.Path})
	}
	m.open[h] = r
	return opened(h)
}

func (m *model) work(r api.Request) api.Reply {
	o, isOpen := m.open[r.Handle]
	switch {
	case !isOpen:
		return refused(errOld)
	case r.Kind == kindShutdown:
		delete(m.open, r.Handle)
		m.shut = append(m.shut, r.Handle)
		return done
	case r.Kind == kindReadAt && o.How%2 == 0 || r.Kind == kindWriteAt && o.How/2%2 == 0:
		return refused(errDenied)
	case r.Kind == kindReadAt && (r.Count < 1 || r.Count > chunk) || r.Kind == kindWriteAt && len(r.Data) > chunk:
		return refused(errSize)
	case r.Kind == kindReadAt:
		return m.act(api.Act{Kind: api.Get, Path: o.Path, At: r.At, Count: r.Count})
	}
	return m.act(api.Act{Kind: api.Put, Path: o.Path, At: r.At, Data: r.Data})
}

// reply: to one more request.
func (m *model) reply(r api.Request) api.Reply {
	switch r.Kind {
	case kindOpen:
		return m.openOne(r)
	case kindShutdown, kindReadAt, kindWriteAt:
		return m.work(r)
	case kindStatus:
		return m.act(api.Act{Kind: api.Stat, Path: r.Path})
	case kindNames:
		return m.act(api.Act{Kind: api.List, Path: r.Path})
	case kindNewDir:
		return m.act(api.Act{Kind: api.Mkdir, Path: r.Path})
	case kindDelete:
		return m.act(api.Act{Kind: api.Remove, Path: r.Path})
	case kindMove:
		return m.act(api.Act{Kind: api.Rename, Path: r.Path, To: r.To})
	case kindSymlink:
		return m.act(api.Act{Kind: api.Link, Path: r.Path, To: r.To})
	}
	return refused(errKind)
}

func TestAllShortLists(t *testing.T) {
	alphabet := []api.Request{
		open("/a", forRead), open("/a", both|forNew), open("/a", forWrite|forEmpty), open("/b", both|forNew|forOnly|forEmpty), open("/b/c", forWrite|forNew),
		shut(0), shut(1), shut(8), write(0, 1, "x"), write(1, 0, "yz"), read(0, 0, 2),
		mkdir("/a"), mkdir("/b"), remove("/a"), move("/a", "/b"), move("/b", "/a"), link("/a", "b"), link("/b", "b/c"),
	}
	more := []api.Request{read(0, 0, 3), read(1, 0, 3), read(8, 0, 3), write(8, 0, "w"), status("/a"), status("/b"), list("/"), list("/b"), open("/a", both), open("/a", both), open("/b", both|forNew)}
	var walk func(m model, l []api.Request, want []api.Reply)
	walk = func(m model, l []api.Request, want []api.Reply) {
		if len(l) == 4 {
			for _, r := range more {
				l, want = append(l, r), append(want, m.reply(r))
			}
			isList(t, l, want)
			return
		}
		for _, r := range alphabet {
			next := m.clone()
			x := next.reply(r)
			walk(next, append(l[:len(l):len(l)], r), append(want[:len(want):len(want)], x))
		}
	}
	walk(newModel(), nil, nil)
}

// dice: numbers that look as if by chance, the same ones each time.
func dice(seed uint32) func(n int) int {
	return func(n int) int {
		seed = seed*1664525 + 1013904223
		return int(seed>>8) % n
	}
}

// player: a model that is played by chance.
type player struct {
	model
	chance func(n int) int
}

// one: of some paths.
func (p player) one(paths string) string {
	l := strings.Fields(paths)
	return l[p.chance(len(l))]
}

func (p player) path() string {
	switch p.chance(25) {
	case 0:
		return []string{"", "/", "\x00", strings.Repeat("/", long+1), strings.Repeat("/a", deep+1), "/" + strings.Repeat("a", wide+1)}[p.chance(6)]
	case 1:
		return strings.Repeat("/"+p.one("a b c d"), 1+p.chance(deep))
	case 2, 3:
		return p.one("/l /l/a /k /k/b /d/l /d/l/a /l/l /d/d/l")
	}
	return p.one("/a /b /c /d /d/a /d/b /e /e/a /d/d /d/d/a")
}

// to: the path of a link.
func (p player) to() string {
	if p.chance(4) == 0 {
		return p.path()
	}
	return p.one("a b d d/a .. . ../a ../d l k /e nobody")
}

func (p player) how() int {
	if p.chance(12) == 0 {
		return p.chance(40) - 4
	}
	l := append(goodHows(), both, both|forNew, both|forNew, forRead, forWrite|forNew)
	return l[p.chance(len(l))]
}

// handle: mostly one that is open, or one that was shut.
func (p player) handle() int {
	l := slices.Sorted(maps.Keys(p.model.open))
	switch k := p.chance(16); {
	case k == 0:
		return far()[p.chance(len(far()))]
	case k == 1:
		return p.chance(60)
	case k == 2 && len(p.model.shut) > 0:
		return p.model.shut[p.chance(len(p.model.shut))]
	case len(l) > 0:
		return l[p.chance(len(l))]
	}
	return 0
}

func (p player) at() int {
	switch p.chance(20) {
	case 0:
		return far()[p.chance(len(far()))]
	case 1:
		return most - p.chance(90)
	}
	return p.chance(40)
}

// size: of what is read or written.
func (p player) size() int {
	switch p.chance(20) {
	case 0:
		return 0
	case 1:
		return chunk - 1 + p.chance(4)
	}
	return 1 + p.chance(40)
}

func (p player) request() api.Request {
	switch p.chance(24) {
	case 0, 1, 2, 3, 4, 5:
		return open(p.path(), p.how())
	case 6, 7:
		return shut(p.handle())
	case 8, 9, 10, 11:
		return read(p.handle(), p.at(), p.size())
	case 12, 13, 14, 15:
		return write(p.handle(), p.at(), text(p.size()))
	case 16:
		return status(p.path())
	case 17:
		return list(p.path())
	case 18:
		return mkdir(p.path())
	case 19, 20:
		return remove(p.path())
	case 21:
		return move(p.path(), p.path())
	case 22:
		return link(p.path(), p.to())
	}
	return api.Request{Kind: []int{0, -1, 11, 12, 255, 256 + 1, kindNewDir, kindNewDir, kindNewDir}[p.chance(9)], Path: p.path()}
}

// mixed: so many requests, and what the model says of them.
func mixed(n int, chance func(n int) int) ([]api.Request, []api.Reply) {
	p := player{newModel(), chance}
	var l []api.Request
	var want []api.Reply
	for i := range n {
		r := litter(p.request(), i)
		l, want = append(l, r), append(want, p.model.reply(r))
	}
	return l, want
}

func TestLongLists(t *testing.T) {
	codes := map[int]map[api.Errno]int{}
	for n := range 600 {
		l, want := mixed(events, dice(uint32(n)))
		isList(t, l, want)
		for i, x := range want {
			if codes[l[i].Kind] == nil {
				codes[l[i].Kind] = map[api.Errno]int{}
			}
			codes[l[i].Kind][x.Code]++
		}
	}
	for kind, all := range map[int][]api.Errno{
		kindOpen:     {ok, errForm, errFull, errTwice, errDir, errNone, errNotDir, errLoop, errSize},
		kindShutdown: {ok, errOld},
		kindReadAt:   {ok, errOld, errDenied, errSize, errRange, errNone, errDir, errNotDir},
		kindWriteAt:  {ok, errOld, errDenied, errSize, errRange, errOver, errNone, errDir, errNotDir},
		kindStatus:   {ok, errNone, errNotDir, errForm}, kindNames: {ok, errNone, errNotDir, errForm}, kindNewDir: {ok, errTwice, errNone, errNotDir}, kindDelete: {ok, errNone, errNotEmpty, errDir}, kindMove: {ok, errNone, errTwice, errNotDir, errForm}, kindSymlink: {ok, errTwice, errNone},
	} {
		for _, code := range all {
			if codes[kind][code] == 0 {
				t.Errorf("no request of kind %d came to %d", kind, code)
			}
		}
	}
}

// TestWhatIsRefusedDoesNothing: without all that was refused the rest comes to the same.
func TestWhatIsRefusedDoesNothing(t *testing.T) {
	for n := range 300 {
		l, want := mixed(events, dice(uint32(n+5000)))
		var kept []api.Request
		var left []api.Reply
		for i, x := range want {
			if x.Code == ok {
				kept, left = append(kept, l[i]), append(left, x)
			}
		}
		isList(t, kept, left)
	}
}
