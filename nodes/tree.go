package nodes

import "packthread/api"

// Tree: all nodes, from the root on.
type Tree struct {
	root  *dir
	count int // of nodes, with the root
}

// place: where a node stands: in a directory, under a name. The root stands in none.
type place struct {
	in   *dir
	name string
	node node
}

// New: a tree of the root alone.
func New() *Tree {
	return &Tree{root: newDir(), count: 1}
}

// Do: what one more act comes to.
func (t *Tree) Do(a api.Act) api.Seen {
	switch a.Kind {
	case api.Mkdir:
		return api.Seen{Code: t.add(a.Path, newDir())}
	case api.Make:
		return api.Seen{Code: t.add(a.Path, &file{})}
	case api.Link:
		return api.Seen{Code: t.link(a.Path, a.To)}
	case api.Put, api.Get, api.Cut:
		return t.work(a)
	case api.Stat:
		return t.stat(a.Path)
	case api.List:
		return t.list(a.Path)
	case api.Remove:
		return api.Seen{Code: t.remove(a.Path)}
	case api.Rename:
		return api.Seen{Code: t.rename(a.Path, a.To)}
	}
	return api.Seen{Code: api.ErrKind}
}

func (t *Tree) link(at, to string) api.Errno {
	if to == "" || len(to) > api.MaxPath { // all else may be odd about it until it is followed
		return api.ErrSize
	}
	return t.add(at, &link{path: to})
}

func (t *Tree) add(at string, n node) api.Errno {
	in, name, code := t.free(at)
	switch {
	case code != api.OK:
		return code
	case t.count >= api.MaxNodes:
		return api.ErrFull
	}
	in.names[name] = n
	t.count++
	return api.OK
}

func (t *Tree) work(a api.Act) api.Seen {
	n, code := t.open(a.Path)
	if code != api.OK {
		return api.Seen{Code: code}
	}
	f, ok := n.(*file)
	if !ok {
		return api.Seen{Code: api.ErrDir}
	}
	return f.do(a)
}

func (t *Tree) stat(at string) api.Seen {
	n, code := t.open(at)
	switch n := n.(type) {
	case *dir:
		return api.Seen{Kind: api.Dir, Size: len(n.names)}
	case *file:
		return api.Seen{Kind: api.File, Size: len(n.data)}
	}
	return api.Seen{Code: code}
}

func (t *Tree) list(at string) api.Seen {
	n, code := t.open(at)
	if code != api.OK {
		return api.Seen{Code: code}
	}
	d, ok := n.(*dir)
	if !ok {
		return api.Seen{Code: api.ErrNotDir}
	}
	return api.Seen{Names: d.list()}
}

func (t *Tree) remove(at string) api.Errno {
	p, code := t.own(at)
	if code != api.OK {
		return code
	}
	if d, ok := p.node.(*dir); ok && len(d.names) > 0 {
		return api.ErrNotEmpty
	}
	delete(p.in.names, p.name)
	t.count--
	return api.OK
}

func (t *Tree) rename(at, to string) api.Errno {
	p, code := t.own(at)
	if code != api.OK {
		return code
	}
	in, name, code := t.free(to)
	switch {
	case code != api.OK:
		return code
	case p.node.holds(in):
		return api.ErrForm
	}
	delete(p.in.names, p.name)
	in.names[name] = p.node
	return api.OK
}
