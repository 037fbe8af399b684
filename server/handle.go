package server

import (
	"slices"

	"packthread/api"
)

// handles: the places that handles are of.
type handles [api.MaxHandle]place

// place: of a handle, which is open, or free.
type place struct {
	open  bool
	freed int // so often
	path  string
	how   int
}

// free: the first place that is free.
func (h *handles) free() (int, api.Errno) {
	free := func(p place) bool { return !p.open }
	at := slices.IndexFunc(h[:], free)
	if at < 0 {
		return 0, api.ErrFull
	}
	return at, api.OK
}

// take: the number of the handle that this place, which was free, has now.
func (h *handles) take(at int, path string, how int) int {
	p := &h[at]
	p.open, p.path, p.how = true, path, how
	return h.number(at)
}

// number: of the handle that this place has, or would have next.
func (h *handles) number(at int) int {
	return at + api.MaxHandle*h[at].freed
}

// find: the place of the handle of this number, if that is open.
func (h *handles) find(handle int) (*place, api.Errno) {
	for i := range h {
		if h[i].open && h.number(i) == handle { // a number that is no handle at all is none of these
			return &h[i], api.OK
		}
	}
	return nil, api.ErrOld
}

// shut: the place of this handle is free.
func (h *handles) shut(handle int) api.Errno {
	p, code := h.find(handle)
	if code != api.OK {
		return code
	}
	*p = place{freed: p.freed + 1}
	return api.OK
}
