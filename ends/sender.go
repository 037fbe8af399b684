// Package ends: both ends of a stream, event by event: who sends (see doc/07-send.md), and who hears (see doc/08-recv.md).
package ends

import (
	"bytes"
	"slices"

	"packthread/api"
	"packthread/hole"
)

// Sender: who sends a stream, and what is known of its places.
type Sender struct {
	data   []byte      // all that was submitted
	closed bool        // then the end has the place behind the last byte
	sent   int         // the first place that was never sent
	again  int         // from here on all that was sent is to be sent again, as far as it is not heard of; one number tells it, as nothing new is sent while there is such a place
	done   int         // all places ahead of it are heard of
	beyond []api.Range // so are these, beyond a gap
	edge   int         // only places ahead of it may be sent
}

// NewSender: one to whom nothing was submitted, and who may send all places ahead of this one.
func NewSender(edge int) Sender {
	return Sender{edge: edge}
}

// Do: what one more deed comes to.
func (s *Sender) Do(d api.Deed) api.Sent {
	var out api.Sent
	switch d.Kind {
	case api.Submit:
		out.Code = s.submit(d.Data)
	case api.Heard:
		out.Code = s.hear(d)
	case api.Poll:
		out = s.poll()
	case api.Timeout:
		s.expire()
	case api.Close:
		out.Code = s.finish()
	default:
		out.Code = api.ErrKind
	}
	out.Left = s.left()
	return out
}

// Unheard: the first place that is not heard of.
func (s *Sender) Unheard() int {
	return s.done
}

func (s *Sender) submit(data []byte) api.Errno {
	switch {
	case s.closed:
		return api.ErrState
	case len(data) > api.MaxBytes:
		return api.ErrSize
	case len(s.data)+len(data) >= api.MaxPos: // so there is always a place for the end
		return api.ErrFull
	}
	s.data = append(s.data, data...)
	return api.OK
}

func (s *Sender) finish() api.Errno {
	if s.closed {
		return api.ErrState
	}
	s.closed = true
	return api.OK
}

func (s *Sender) hear(d api.Deed) api.Errno {
	odd := func(r api.Range) bool { return r.From < 0 || r.From >= r.To || r.To > s.sent }
	switch {
	case d.Ack < 0 || d.Ack > s.sent || d.Window < 0 || d.Window > api.MaxWindow:
		return api.ErrRange
	case len(d.Sacks) > api.MaxSacks:
		return api.ErrSize
	case slices.ContainsFunc(d.Sacks, odd):
		return api.ErrRange
	}
	done, beyond := s.done, s.beyond
	for _, r := range append([]api.Range{{To: d.Ack}}, d.Sacks...) {
		var code api.Errno
		if done, beyond, code = hole.Add(done, beyond, r); code != api.OK {
			return code // nothing is heard of then, what was added already neither
		}
	}
	s.done, s.beyond = done, beyond
	s.edge = max(s.edge, d.Ack+d.Window)
	return api.OK
}

func (s *Sender) expire() {
	s.again = s.done
	if s.done == s.sent && s.sent < s.places() { // with nothing under way nothing would ever be heard that moves the edge
		s.edge = max(s.edge, s.sent+1)
	}
}

func (s *Sender) poll() api.Sent {
	var out api.Sent
	if l := s.missing(); l.From < l.To {
		out, s.again = s.piece(l)
		out.Again = true
		return out
	}
	l := api.Range{From: s.sent, To: min(s.edge, s.places())}
	if l.From >= l.To {
		return api.Sent{Idle: true}
	}
	out, s.sent = s.piece(l)
	s.again = s.sent
	return out
}

// missing: the first places to be sent again, up to one that is heard of or was never sent; From is To if there are none.
func (s *Sender) missing() api.Range {
	l := api.Range{From: max(s.done, s.again), To: s.sent}
	for _, r := range slices.Backward(s.beyond) {
		if r.From <= l.From {
			l.From = max(l.From, r.To)
			break
		}
		l.To = r.From
	}
	return l
}

// piece: as much of these places as is sent at once, and the place behind it.
func (s *Sender) piece(l api.Range) (api.Sent, int) {
	to := min(l.To, l.From+api.MaxData, len(s.data))
	out := api.Sent{From: l.From, Data: bytes.Clone(s.data[l.From:to])}
	if to == len(s.data) && to < l.To { // behind the last byte only the end has a place
		out.Fin = true
		to++
	}
	return out, to
}

// places: how many were submitted, the end too, if there is one.
func (s *Sender) places() int {
	if s.closed {
		return len(s.data) + 1
	}
	return len(s.data)
}

// left: how many places were submitted, and are not heard of.
func (s *Sender) left() int {
	n := s.places() - s.done
	for _, r := range s.beyond {
		n -= r.To - r.From
	}
	return n
}
