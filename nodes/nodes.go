// Package nodes: directories, files and links, from a root on, act by act. See doc/12-tree.md.
package nodes

import (
	"bytes"
	"maps"
	"slices"

	"packthread/api"
	"packthread/path"
)

// node: a directory, a file, or a link.
type node interface {
	holds(d *dir) bool // whether that directory is this node, or stands within it
}

type dir struct {
	names map[string]node
}

type file struct {
	data []byte
}

type link struct {
	path string
}

func newDir() *dir {
	return &dir{names: map[string]node{}}
}

func (d *dir) holds(other *dir) bool {
	if d == other {
		return true
	}
	for _, n := range d.names {
		if n.holds(other) {
			return true
		}
	}
	return false
}

func (f *file) holds(*dir) bool { return false }

func (l *link) holds(*dir) bool { return false } // what it leads to stands elsewhere

func (d *dir) list() []string {
	return slices.Sorted(maps.Keys(d.names))
}

// do: what comes of a Put, a Get, or a Cut.
func (f *file) do(a api.Act) api.Seen {
	switch a.Kind {
	case api.Put:
		return f.put(a.At, a.Data)
	case api.Get:
		return f.get(a.At, a.Count)
	}
	return f.cut(a.Count)
}

func (f *file) put(at int, data []byte) api.Seen {
	switch {
	case !inFile(at):
		return api.Seen{Code: api.ErrRange}
	case len(data) > api.MaxFile-at:
		return api.Seen{Code: api.ErrOver}
	}
	f.resize(max(len(f.data), at+len(data)))
	copy(f.data[at:], data)
	return api.Seen{Size: len(f.data)}
}

func (f *file) get(at, count int) api.Seen {
	if !inFile(at) || !inFile(count) {
		return api.Seen{Code: api.ErrRange}
	}
	size := len(f.data)
	return api.Seen{Data: bytes.Clone(f.data[min(at, size):min(at+count, size)])}
}

func (f *file) cut(count int) api.Seen {
	if !inFile(count) {
		return api.Seen{Code: api.ErrRange}
	}
	f.resize(count)
	return api.Seen{Size: len(f.data)}
}

// resize: it has so many bytes then; new ones are zeros, also where others were cut off before.
func (f *file) resize(size int) {
	kept := min(size, len(f.data))
	f.data = append(f.data[:kept], make([]byte, size-kept)...)
}

// inFile: whether this may be a place in a file, or how many bytes it has.
func inFile(n int) bool {
	return n >= 0 && n <= api.MaxFile
}

// lead: what is looked up then, if this link stands in a directory of such names, and the rest was still to be looked up.
func (l *link) lead(in, rest []string) ([]string, api.Errno) {
	names, code := path.Follow(in, l.path)
	switch {
	case code != api.OK:
		return nil, code
	case len(names)+len(rest) > api.MaxDepth:
		return nil, api.ErrFull
	}
	return append(names, rest...), api.OK
}
