package tree_test

import (
	"fmt"
	"maps"
	"slices"
	"strings"
	"testing"

	"packthread/api"
	"packthread/tree"
)

// entry: what stands at a place of the model.
type entry struct {
	kind int
	text string // the bytes of a file, the path of a link
}

// model: a tree as one list of all there is, each by all its names, a slash ahead of each; the root by none.
type model map[string]entry

func newModel() model { return model{"": {kind: isDir}} }

// cleaned: the names of a path, from these on.
func cleaned(from []string, p string) ([]string, api.Errno) {
	if len(p) > long {
		return nil, errSize
	}
	out := slices.Clone(from)
	if strings.HasPrefix(p, "/") {
		out = nil
	}
	for _, part := range strings.Split(p, "/") {
		if part == "" || part == "." {
			continue
		}
		if part == ".." {
			if len(out) > 0 {
				out = out[:len(out)-1]
			}
			continue
		}
		if len(part) > wide || strings.Contains(part, "\x00") {
			return nil, errForm
		}
		if len(out) == deep {
			return nil, errFull
		}
		out = append(out, part)
	}
	return out, ok
}

// look: the place that names lead to from a place on, when so many links led on already.
func (m model) look(at string, todo []string, follow bool, led int) (string, api.Errno) {
	if len(todo) == 0 {
		return at, ok
	}
	if m[at].kind == isFile {
		return "", errNotDir
	}
	next := at + "/" + todo[0]
	e, there := m[next]
	switch {
	case !there:
		return "", errNone
	case e.kind != isSym || len(todo) == 1 && !follow:
		return m.look(next, todo[1:], follow, led)
	case led == links:
		return "", errLoop
	}
	var in []string
	if at != "" {
		in = strings.Split(at, "/")[1:]
	}
	lead, code := cleaned(in, e.text)
	switch {
	case code != ok:
		return "", code
	case len(lead)+len(todo)-1 > deep:
		return "", errFull
	}
	return m.look("", append(lead, todo[1:]...), follow, led+1)
}

// find: the place of a path; empty is what it is refused with if it has no names, or ok.
func (m model) find(p string, follow bool, empty api.Errno) (string, api.Errno) {
	l, code := cleaned(nil, p)
	switch {
	case code != ok:
		return "", code
	case len(l) == 0:
		return "", empty
	}
	return m.look("", l, follow, 0)
}

// inside: the names in a place, ascending.
func (m model) inside(at string) (out []string) {
	for p := range m {
		if name, there := strings.CutPrefix(p, at+"/"); there && !strings.Contains(name, "/") {
			out = append(out, name)
		}
	}
	slices.Sort(out)
	return out
}

// spot: the place of a path where nothing stands yet.
func (m model) spot(p string) (string, api.Errno) {
	l, code := cleaned(nil, p)
	switch {
	case code != ok:
		return "", code
	case len(l) == 0:
		return "", errTwice
	}
	in, code := m.look("", l[:len(l)-1], true, 0)
	if code != ok {
		return "", code
	}
	at := in + "/" + l[len(l)-1]
	switch _, there := m[at]; {
	case m[in].kind != isDir:
		return "", errNotDir
	case there:
		return "", errTwice
	}
	return at, ok
}

// act: what one more act comes to.
func (m model) act(a api.Act) api.Seen {
	switch a.Kind {
	case kindMkdir:
		return refused(m.add(a.Path, entry{kind: isDir}))
	case kindMake:
		return refused(m.add(a.Path, entry{kind: isFile}))
	case kindLink:
		if len(a.To) == 0 || len(a.To) > long {
			return refused(errSize)
		}
		return refused(m.add(a.Path, entry{kind: isSym, text: a.To}))
	case kindPut, kindGet, kindCut:
		return m.work(a)
	case kindStat, kindList:
		at, code := m.find(a.Path, true, ok)
		switch {
		case code != ok:
			return refused(code)
		case a.Kind == kindStat && m[at].kind == isFile:
			return aFile(len(m[at].text))
		case a.Kind == kindStat:
			return aDir(len(m.inside(at)))
		case m[at].kind == isFile:
			return refused(errNotDir)
		}
		return api.Seen{Names: m.inside(at)}
	case kindRemove:
		at, code := m.find(a.Path, false, errDir)
		switch {
		case code != ok:
			return refused(code)
		case len(m.inside(at)) > 0:
			return refused(errNotEmpty)
		}
		delete(m, at)
		return done
	case kindRename:
		return refused(m.rename(a.Path, a.To))
	}
	return refused(errKind)
}

func (m model) add(p string, e entry) api.Errno {
	at, code := m.spot(p)
	switch {
	case code != ok:
		return code
	case len(m) == nodes:
		return errFull
	}
	m[at] = e
	return ok
}

func (m model) work(a api.Act) api.Seen {
	at, code := m.find(a.Path, true, ok)
	outside := func(n int) bool { return n < 0 || n > most }
	switch {
	case code != ok:
		return refused(code)
	case m[at].kind != isFile:
		return refused(errDir)
	case a.Kind != kindCut && outside(a.At) || a.Kind != kindPut && outside(a.Count):
		return refused(errRange)
	case a.Kind == kindPut && a.At+len(a.Data) > most:
		return refused(errOver)
	}
	old := m[at].text
	n := len(old)
	switch a.Kind {
	case kindGet:
		return data(old[min(a.At, n):min(a.At+a.Count, n)])
	case kindPut:
		m[at] = entry{isFile, laid(old, a.At, string(a.Data))}
	case kindCut:
		m[at] = entry{isFile, laid(old[:min(n, a.Count)], a.Count, "")}
	}
	return sized(len(m[at].text))
}

func (m model) rename(p, to string) api.Errno {
	from, code := m.find(p, false, errDir)
	if code != ok {
		return code
	}
	at, code := m.spot(to)
	switch {
	case code != ok:
		return code
	case strings.HasPrefix(at, from+"/"):
		return errForm
	}
	for old, e := range maps.Clone(m) {
		if old == from || strings.HasPrefix(old, from+"/") {
			delete(m, old)
			m[at+old[len(from):]] = e
		}
	}
	return ok
}

func TestAllShortLists(t *testing.T) {
	alphabet := []api.Act{
		mkdir("/a"), mkdir("/b"), create("/a"), create("/a/b"), mkdir("/b/a"), link("/b", "a"), link("/a/b", ".."), link("/b", "b/a"),
		put("/a", 1, "x"), put("/b/a", 2, ""), cut("/a/b", 1), remove("/a"), remove("/b"), remove("/a/b"),
		rename("/a", "/b"), rename("/b", "/a"), rename("/a", "/a/b"), rename("/b", "/a/b"), rename("/a/b", "/b"), rename("/b/a", "/a"),
	}
	asks := []api.Act{list("/"), list("/a"), stat("/a"), stat("/b"), stat("/a/b"), stat("/b/a"), all("/a"), all("/b"), all("/a/b"), list("/b/a"), list("/a/b/a")}
	var walk func(m model, l []api.Act, want []api.Seen)
	walk = func(m model, l []api.Act, want []api.Seen) {
		if len(l) == 4 {
			for _, a := range asks {
				l, want = append(l, a), append(want, m.act(a))
			}
			isList(t, l, want)
			return
		}
		for _, a := range alphabet {
			next := maps.Clone(m)
			x := next.act(a)
			walk(next, append(l[:len(l):len(l)], a), append(want[:len(want):len(want)], x))
		}
	}
	walk(newModel(), nil, nil)
}

// dice: numbers that look as if by chance, the same ones each time.
func dice(seed uint32) func(n int) int {
	return func(n int) int {
		seed = seed*1664525 + 1013904223
		return int(seed>>8) % n
	}
}

// player: a model that is played by chance.
type player struct {
	model
	chance func(n int) int
}

// name: one of few, so that some are there already.
func (p player) name() string {
	l := []string{"a", "b", "c", "dd", "E", "f.g", "0123456789abcdef"}
	return l[p.chance(len(l))]
}

// known: the path of something that is there, mostly.
func (p player) known() string {
	l := slices.Sorted(maps.Keys(p.model))
	at := l[p.chance(len(l))]
	switch p.chance(12) {
	case 0:
		return strings.ReplaceAll(at, "/", "//") + "/"
	case 1:
		return at + "/.."
	case 2:
		return at + "/../" + p.name()
	case 3, 4:
		return at + "/" + p.name() // through a link, or of a directory
	}
	return at
}

// fresh: a path where mostly nothing is yet, in something that is there.
func (p player) fresh() string {
	return p.known() + "/" + p.name()
}

func (p player) path() string {
	switch p.chance(30) {
	case 0:
		return []string{"", "/", "..", "\x00", strings.Repeat("/", long+1), strings.Repeat("/a", deep+1), "/" + strings.Repeat("a", wide+1)}[p.chance(7)]
	case 1:
		return "/" + strings.Repeat(p.name()+"/", 1+p.chance(deep))
	case 2, 3, 4:
		return p.fresh()
	}
	return p.known()
}

// spot: mostly a fresh path.
func (p player) spot() string {
	if p.chance(8) == 0 {
		return p.path()
	}
	return p.fresh()
}

// to: the path of a link.
func (p player) to() string {
	if p.chance(2) == 0 {
		return p.path()
	}
	return []string{".", "..", "../..", "../" + p.name(), "./" + p.name(), p.name(), "../" + p.name() + "/" + p.name(), "../" + p.name(), p.name()}[p.chance(9)]
}

func (p player) number() int {
	switch p.chance(20) {
	case 0:
		return far()[p.chance(len(far()))]
	case 1:
		return most - p.chance(4)
	}
	return p.chance(40)
}

func (p player) act() api.Act {
	switch p.chance(20) {
	case 0, 1:
		return mkdir(p.spot())
	case 2, 3:
		return create(p.spot())
	case 4, 5, 6:
		return link(p.spot(), p.to())
	case 7, 8:
		return put(p.path(), p.number(), text(p.chance(30)+p.chance(2)*p.chance(2)*p.chance(most)))
	case 9, 10:
		return get(p.path(), p.number(), p.number())
	case 11:
		return cut(p.path(), p.number())
	case 12, 13:
		return stat(p.path())
	case 14, 15:
		return list(p.path())
	case 16:
		return remove(p.path())
	case 17, 18:
		return rename(p.path(), p.spot())
	}
	return litter(api.Act{Kind: []int{0, 11, -1, kindRemove, kindCut, kindMake, kindList, kindLink, kindRename}[p.chance(9)], Path: p.path(), To: p.path()}, p.chance(30))
}

// mixed: so many acts, and what the model says of them.
func mixed(n int, chance func(n int) int) ([]api.Act, []api.Seen) {
	p := player{newModel(), chance}
	var l []api.Act
	var want []api.Seen
	for range n {
		a := p.act()
		l, want = append(l, a), append(want, p.model.act(a))
	}
	return l, want
}

func TestLongLists(t *testing.T) {
	codes := map[int]map[api.Errno]int{}
	for n := range 1500 {
		l, want := mixed(events, dice(uint32(n)))
		isList(t, l, want)
		for i, x := range want {
			if codes[l[i].Kind] == nil {
				codes[l[i].Kind] = map[api.Errno]int{}
			}
			codes[l[i].Kind][x.Code]++
		}
	}
	finding := []api.Errno{ok, errSize, errForm, errNone, errFull, errLoop, errNotDir}
	for kind, more := range map[int][]api.Errno{
		kindMkdir: {errTwice}, kindMake: {errTwice}, kindLink: {errTwice}, kindPut: {errDir, errRange, errOver}, kindGet: {errDir, errRange}, kindCut: {errDir, errRange},
		kindStat: nil, kindList: nil, kindRemove: {errDir, errNotEmpty}, kindRename: {errDir, errTwice},
	} {
		for _, code := range append(more, finding...) {
			if codes[kind][code] == 0 {
				t.Errorf("no act of kind %d came to %d", kind, code)
			}
		}
	}
}

// TestWhatIsRefusedDoesNothing: without all that was refused the rest comes to the same.
func TestWhatIsRefusedDoesNothing(t *testing.T) {
	for n := range 300 {
		l, want := mixed(events, dice(uint32(n+5000)))
		var kept []api.Act
		var left []api.Seen
		for i, x := range want {
			if x.Code == ok {
				kept, left = append(kept, l[i]), append(left, x)
			}
		}
		isList(t, kept, left)
	}
}

// What comes of it: nothing that is in the tree is lost but by a Remove.

// last: the last name of a path.
func last(p string) string { return p[strings.LastIndex(p, "/")+1:] }

// stay: acts without a Remove, each node with a last name of its own that it keeps.
func stay(chance func(n int) int) (l []api.Act) {
	m := newModel()
	some := func(fit func(e entry) bool) string {
		at := slices.Sorted(maps.Keys(m))
		at = slices.DeleteFunc(at, func(p string) bool { return !fit(m[p]) })
		return at[chance(len(at))]
	}
	do := func(a api.Act) {
		l = append(l, a)
		m.act(a)
	}
	aDir := func(e entry) bool { return e.kind == isDir }
	for i := range nodes - 1 {
		p := fmt.Sprintf("%s/n%d", some(aDir), i)
		switch k := chance(8); {
		case i%6 == 0: // few, so that no path has too many names
			do(mkdir(p))
		case k < 2:
			do(link(p, []string{"..", ".", "nobody", p[1:], "/"}[chance(5)]))
		default:
			do(create(p))
			do(put(p, 0, text(1+chance(50))))
		}
		for range 4 {
			from := some(func(entry) bool { return true })
			do(rename(from, some(aDir)+"/"+last(from)))
		}
	}
	return l
}

// survey: all names that there are behind these acts, with the bytes of each file.
func survey(t *testing.T, l []api.Act) map[string]string {
	t.Helper()
	ask := func(a api.Act) api.Seen {
		got, code := tree.Play(append(slices.Clone(l), a))
		if code != ok || len(got) != len(l)+1 {
			t.Fatalf("Play(%s): %d told, %d", sketches(l), len(got), code)
		}
		return got[len(l)]
	}
	out := map[string]string{}
	var walk func(p string)
	walk = func(p string) {
		for _, name := range ask(list(p)).Names {
			if _, there := out[name]; there {
				t.Fatalf("Play(%s): %s stands twice", sketches(l), name)
			}
			at := p + "/" + name
			out[name] = string(ask(all(at)).Data)
			if ask(rename(at, at+"/x")).Code == errForm { // a directory, not a link to one
				walk(at)
			}
		}
	}
	walk("")
	return out
}

func TestNothingIsLost(t *testing.T) {
	for n := range 60 {
		l := stay(dice(uint32(n)))
		got := survey(t, l)
		for _, a := range l {
			name := last(a.Path)
			bytes, there := got[name]
			switch {
			case a.Kind != kindRename && !there:
				t.Fatalf("Play(%s): %s is lost", sketches(l), name)
			case a.Kind == kindPut && bytes != string(a.Data):
				t.Fatalf("Play(%s): bytes of %s are lost", sketches(l), name)
			}
		}
		if len(got) != nodes-1 {
			t.Fatalf("Play(%s): %d names", sketches(l), len(got))
		}
	}
}
