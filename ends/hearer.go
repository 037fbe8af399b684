package ends

import (
	"bytes"
	"slices"

	"packthread/api"
	"packthread/hole"
)

// Hearer: who hears a stream, and what is known of its places.
type Hearer struct {
	room   int         // for so many bytes that are not taken
	data   []byte      // the bytes at all places up to the last one that came; at those that did not come it says nothing
	done   int         // all places ahead of it came
	beyond []api.Range // so did these, beyond a gap
	taken  int         // so many bytes were taken
	ended  bool        // then the end is known
	end    int
}

// NewHearer: one to whom nothing came, with room for so many bytes.
func NewHearer(room int) Hearer {
	return Hearer{room: room}
}

// Hear: what one more arrival comes to.
func (h *Hearer) Hear(a api.Arrival) api.Told {
	var out api.Told
	last := -1 // no range has this place
	switch a.Kind {
	case api.Arrive:
		out.Code = h.arrive(a)
		last = a.From
	case api.Take:
		out = h.take(a.Count)
	default:
		out.Code = api.ErrKind
	}
	out.Ack = h.done
	if h.ended && h.done == h.end {
		out.Ack++
	}
	out.Window = h.taken + h.room - h.done
	out.Sacks, _ = hole.Sacks(h.done, h.beyond, last, api.MaxSacks) // what Add made of them is never refused
	return out
}

// Missing: the first place that did not come.
func (h *Hearer) Missing() int {
	return h.done
}

func (h *Hearer) arrive(a api.Arrival) api.Errno {
	to := a.From + len(a.Data)
	later := func(r api.Range) bool { return r.To > to }
	switch {
	case a.From < 0 || a.From >= api.MaxPos-len(a.Data): // to itself may have come round
		return api.ErrRange
	case len(a.Data) > api.MaxData:
		return api.ErrSize
	case h.ended && (to > h.end || a.Fin && to != h.end):
		return api.ErrState
	case a.Fin && (h.done > to || slices.ContainsFunc(h.beyond, later)):
		return api.ErrState
	}
	room := h.taken + h.room
	fits := api.Range{From: min(a.From, room), To: min(to, room)}
	done, beyond, code := hole.Add(h.done, h.beyond, fits)
	if code != api.OK {
		return code
	}
	h.keep(fits, a.Data)
	h.done, h.beyond = done, beyond
	if a.Fin { // the end is known also where bytes ahead of it are dropped
		h.ended, h.end = true, to
	}
	return api.OK
}

// keep: the first of these bytes stand at these places, but where one came already.
func (h *Hearer) keep(r api.Range, data []byte) {
	if n := r.To - len(h.data); n > 0 {
		h.data = append(h.data, make([]byte, n)...)
	}
	for p := r.From; p < r.To; p++ {
		if !h.came(p) {
			h.data[p] = data[p-r.From]
		}
	}
}

// came: whether a byte came at this place.
func (h *Hearer) came(place int) bool {
	has := func(r api.Range) bool { return r.From <= place && place < r.To }
	return place < h.done || slices.ContainsFunc(h.beyond, has)
}

func (h *Hearer) take(count int) api.Told {
	if count < 0 || count > api.MaxBytes {
		return api.Told{Code: api.ErrRange}
	}
	to := min(h.done, h.taken+count)
	out := api.Told{Data: bytes.Clone(h.data[h.taken:to])}
	h.taken = to
	out.End = h.ended && h.taken == h.end
	return out
}
