package nodes

import (
	"packthread/api"
	"packthread/path"
)

// open: the node at a path, links followed: a directory or a file.
func (t *Tree) open(at string) (node, api.Errno) {
	names, code := path.Clean(at)
	if code != api.OK {
		return nil, code
	}
	p, code := t.find(names, true)
	return p.node, code
}

// own: where the node at a path stands, which may be a link itself.
func (t *Tree) own(at string) (place, api.Errno) {
	names, code := path.Clean(at)
	switch {
	case code != api.OK:
		return place{}, code
	case len(names) == 0:
		return place{}, api.ErrDir
	}
	return t.find(names, false)
}

// free: the directory that a path names, and the last name, under which nothing stands there.
func (t *Tree) free(at string) (*dir, string, api.Errno) {
	names, code := path.Clean(at)
	switch {
	case code != api.OK:
		return nil, "", code
	case len(names) == 0:
		return nil, "", api.ErrTwice
	}
	last := len(names) - 1
	in, code := t.dir(names[:last])
	if code != api.OK {
		return nil, "", code
	}
	if _, ok := in.names[names[last]]; ok {
		return nil, "", api.ErrTwice
	}
	return in, names[last], api.OK
}

// dir: the directory that names lead to, links followed.
func (t *Tree) dir(names []string) (*dir, api.Errno) {
	p, code := t.find(names, true)
	if code != api.OK {
		return nil, code
	}
	d, ok := p.node.(*dir)
	if !ok {
		return nil, api.ErrNotDir
	}
	return d, api.OK
}

// find: where names lead to; a link that is the last one leads on only if it is to be followed.
func (t *Tree) find(names []string, follow bool) (place, api.Errno) {
	for led := 0; ; led++ {
		at, n, code := t.walk(names)
		l, ok := at.node.(*link)
		switch {
		case !ok || n == len(names) && !follow:
			return at, code
		case led == api.MaxLinks:
			return place{}, api.ErrLoop
		}
		if names, code = l.lead(names[:n-1], names[n:]); code != api.OK {
			return place{}, code
		}
	}
}

// walk: where names lead to from the root on, up to the first link, and how many of them it took.
func (t *Tree) walk(names []string) (place, int, api.Errno) {
	at := place{node: t.root}
	for i, name := range names {
		d, ok := at.node.(*dir)
		if !ok {
			return place{}, 0, api.ErrNotDir
		}
		n, ok := d.names[name]
		if !ok {
			return place{}, 0, api.ErrNone
		}
		at = place{in: d, name: name, node: n}
		if _, ok := n.(*link); ok {
			return at, i + 1, api.OK
		}
	}
	return at, len(names), api.OK
}
