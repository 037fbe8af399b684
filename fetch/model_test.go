package fetch_test

import (
	"bytes"
	"maps"
	"slices"
	"testing"

	"packthread/api"
	"packthread/fetch"
)

// model: who fetches, who knows which wants are out, how many chunks were asked for, which byte came at which place, and where there was nothing.
type model struct {
	out   map[api.Want]bool
	asked int
	came  map[int]byte
	ends  []int
}

// newModel: one that asked for what is asked for at first.
func newModel() model {
	m := model{out: map[api.Want]bool{}, came: map[int]byte{}}
	m.onward()
	return m
}

func (m model) clone() model {
	return model{maps.Clone(m.out), m.asked, maps.Clone(m.came), slices.Clone(m.ends)}
}

// wants: those that are out, by their places.
func (m model) wants() []api.Want {
	return slices.SortedFunc(maps.Keys(m.out), func(a, b api.Want) int { return a.At - b.At })
}

// onward: what is asked on.
func (m *model) onward() (l []api.Want) {
	for len(m.out) < flight && m.asked < chunks && len(m.ends) == 0 { // an end is always ahead of front, where a want was
		w := api.Want{At: m.asked * chunk, Count: chunk}
		m.out[w] = true
		m.asked++
		l = append(l, w)
	}
	return l
}

// next: what comes of one more Got.
func (m *model) next(g api.Got) api.Next {
	w := api.Want{At: g.At, Count: g.Count}
	if !m.out[w] {
		return refused(errNone)
	}
	if len(g.Data) > g.Count {
		return refused(errSize)
	}
	delete(m.out, w)
	for i, b := range g.Data {
		m.came[g.At+i] = b
	}
	var x api.Next
	if rest := (api.Want{At: g.At + len(g.Data), Count: g.Count - len(g.Data)}); len(g.Data) == 0 {
		m.ends = append(m.ends, g.At)
	} else if rest.Count > 0 {
		m.out[rest] = true
		x.Wants = append(x.Wants, rest)
	}
	x.Wants = append(x.Wants, m.onward()...)
	x.Data, x.Done = m.file()
	return x
}

// file: all bytes up to the least end, if each of them came.
func (m *model) file() ([]byte, bool) {
	if len(m.ends) == 0 {
		return nil, false
	}
	var l []byte
	for p := range slices.Min(m.ends) {
		b, ok := m.came[p]
		if !ok {
			return nil, false
		}
		l = append(l, b)
	}
	return l, true
}

func TestAllShortLists(t *testing.T) {
	parts := []func(w api.Want) int{
		func(w api.Want) int { return 0 }, func(w api.Want) int { return 1 }, func(w api.Want) int { return w.Count - 1 }, func(w api.Want) int { return w.Count }, func(w api.Want) int { return w.Count + 1 },
	}
	var walk func(m model, depth int, l []api.Got, want []api.Next)
	walk = func(m model, depth int, l []api.Got, want []api.Next) {
		if depth == 0 {
			isList(t, l, want)
			return
		}
		for _, w := range m.wants() {
			for _, part := range parts {
				next := m.clone()
				g := bring(w.At, w.Count, part(w))
				walk(next, depth-1, append(l[:len(l):len(l)], g), append(want[:len(want):len(want)], next.next(g)))
			}
		}
	}
	walk(newModel(), 3, nil, []api.Next{first()})
}

// TestAllOrders: in which the wants of a short file are answered, each at once, or in two pieces.
func TestAllOrders(t *testing.T) {
	var walk func(m model, size, cut int, l []api.Got, want []api.Next)
	walk = func(m model, size, cut int, l []api.Got, want []api.Next) {
		open := false
		for _, w := range m.wants() {
			if w.At > size && size/chunk != w.At/chunk { // those far behind the end come when they may
				continue
			}
			open = true
			next := m.clone()
			n := max(0, min(w.Count, size-w.At))
			if w.Count == chunk && n > cut {
				n = cut
			}
			g := bring(w.At, w.Count, n)
			walk(next, size, cut, append(l[:len(l):len(l)], g), append(want[:len(want):len(want)], next.next(g)))
		}
		if !open {
			isList(t, l, want)
			if x := want[len(want)-1]; !x.Done || !bytes.Equal(x.Data, text(0, size)) {
				t.Fatalf("%q: %s", sketches(l), show(x))
			}
		}
	}
	for _, size := range []int{0, 1, 99, 100, 101, 200, 230, 250, 299} {
		for _, cut := range []int{1, 50, 99, 100} {
			walk(newModel(), size, cut, nil, []api.Next{first()})
		}
	}
}

// dice: numbers that look as if by chance, the same ones each time.
func dice(seed uint32) func(n int) int {
	return func(n int) int {
		seed = seed*1664525 + 1013904223
		return int(seed>>8) % n
	}
}

// TestTheFileIsTheFile: whoever answers in whatever order, and in whatever pieces.
func TestTheFileIsTheFile(t *testing.T) {
	for size := 0; size <= beyond; size += 1 + size%7 {
		for n := range 4 {
			chance := dice(uint32(size*4 + n))
			m := newModel()
			var l []api.Got
			want := []api.Next{first()}
			for len(m.out) > 0 {
				out := m.wants()
				w := out[chance(len(out))]
				there := max(0, min(w.Count, size-w.At))
				if n > 0 && there > 1 && chance(4) < n {
					there = 1 + chance(there)
				}
				g := bring(w.At, w.Count, there)
				l, want = append(l, g), append(want, m.next(g))
			}
			if len(l) > events {
				t.Fatalf("%d Gots", len(l))
			}
			isList(t, l, want)
			got, _ := fetch.Play(l)
			if x := got[len(l)]; x.Done != (size < beyond) || x.Done && !bytes.Equal(x.Data, text(0, size)) {
				t.Fatalf("%q: %s, of %d bytes", sketches(l), show(x), size)
			}
		}
	}
}

// hear: a Got, mostly of a want that is out.
func hear(m model, chance func(n int) int) api.Got {
	out := m.wants()
	w := api.Want{At: chance(24) * chunk, Count: chunk}
	if len(out) > 0 && chance(12) > 0 {
		w = out[chance(len(out))]
	}
	n := w.Count
	switch chance(12) {
	case 0:
		w.At += chance(3) - 1
	case 1:
		w.Count += chance(3) - 1
	case 2:
		n += 1 + chance(9)
	case 3, 4, 5, 6:
		n = 1 + chance(w.Count)
	case 7:
		if chance(6) == 0 {
			n = 0
		}
	}
	data := make([]byte, n)
	for i := range data {
		data[i] = byte(chance(256))
	}
	return api.Got{At: w.At, Count: w.Count, Data: data}
}

// mixed: so many Gots, and what the model says of them.
func mixed(n int, chance func(n int) int) ([]api.Got, []api.Next) {
	m := newModel()
	var l []api.Got
	want := []api.Next{first()}
	for range n {
		g := hear(m, chance)
		l, want = append(l, g), append(want, m.next(g))
	}
	return l, want
}

func TestLongLists(t *testing.T) {
	seen := map[string]int{}
	for n := range 800 {
		l, want := mixed(events, dice(uint32(n)))
		isList(t, l, want)
		out := 0
		for _, x := range want {
			switch {
			case x.Code == errNone:
				seen["none"]++
			case x.Code == errSize:
				seen["size"]++
			case x.Done:
				seen["done"]++
			case len(x.Wants) == 0:
				seen["nothing more"]++
			}
			if x.Code == ok {
				out += len(x.Wants) - 1
			}
			if out > flight-1 {
				t.Fatalf("%q: %d are out", sketches(l), out+1)
			}
		}
	}
	for _, what := range []string{"none", "size", "done", "nothing more"} {
		if seen[what] < 100 {
			t.Errorf("%s: %d", what, seen[what])
		}
	}
}

// TestWhatIsRefusedDoesNothing: without all that was refused the rest comes to the same.
func TestWhatIsRefusedDoesNothing(t *testing.T) {
	for n := range 300 {
		l, want := mixed(events, dice(uint32(n+5000)))
		var kept []api.Got
		left := []api.Next{first()}
		for i, g := range l {
			if want[i+1].Code == ok {
				kept, left = append(kept, g), append(left, want[i+1])
			}
		}
		isList(t, kept, left)
	}
}
