// Package wire: a line between who sends and who hears, hop by hop. See doc/09-pipe.md.
package wire

import (
	"packthread/api"
	"packthread/ends"
	"packthread/seg"
	"packthread/serial"
)

// Wire: who sends and who hears, and all that was put between them.
type Wire struct {
	ends.Sender
	ends.Hearer
	first  int // the serial number of the first place
	frames []frame
}

// frame: the bytes of a segment, under way.
type frame struct {
	bytes []byte
	there bool // it is on the way to who hears; else it is on the way back
	hit   bool
}

// New: a line on which nothing happened. ErrRange: there is no such line.
func New(c api.Line) (Wire, api.Errno) {
	if _, code := serial.Add(c.First, 0); code != api.OK || c.Room < 1 || c.Room > api.MaxBytes {
		return Wire{}, api.ErrRange
	}
	return Wire{Sender: ends.NewSender(c.Room), Hearer: ends.NewHearer(c.Room), first: c.First}, api.OK
}

// Pass: what one more hop comes to.
func (w *Wire) Pass(h api.Hop) api.Passed {
	switch h.Kind {
	case api.Give:
		return w.tell(api.Deed{Kind: api.Submit, Data: h.Data})
	case api.Shut:
		return w.tell(api.Deed{Kind: api.Close})
	case api.Expire:
		return w.tell(api.Deed{Kind: api.Timeout})
	case api.Send:
		return w.send()
	case api.Hit:
		return api.Passed{Code: w.hit(h)}
	case api.Carry:
		return w.carry(h.Id)
	case api.Return:
		return w.bringBack(h.Id)
	case api.Drain:
		return w.answer(api.Arrival{Kind: api.Take, Count: h.Count})
	}
	return api.Passed{Code: api.ErrKind}
}

// tell: who sends is told this; what is left is answered also where it is refused.
func (w *Wire) tell(d api.Deed) api.Passed {
	x := w.Do(d)
	return api.Passed{Code: x.Code, Left: x.Left}
}

func (w *Wire) send() api.Passed {
	x := w.Do(api.Deed{Kind: api.Poll})
	if x.Idle {
		return api.Passed{Code: api.ErrNone}
	}
	id := w.put(api.Segment{Seq: w.serial(x.From), Fin: x.Fin, Data: x.Data}, true)
	return api.Passed{Put: true, Id: id, Left: x.Left}
}

func (w *Wire) hit(h api.Hop) api.Errno {
	if !w.has(h.Id) {
		return api.ErrNone
	}
	f := &w.frames[h.Id]
	switch {
	case h.At < 0 || h.At >= len(f.bytes):
		return api.ErrRange
	case f.hit:
		return api.ErrTwice
	}
	f.bytes[h.At] ^= h.By
	f.hit = true
	return api.OK
}

func (w *Wire) carry(id int) api.Passed {
	s, code := w.segment(id, true)
	if code != api.OK {
		return api.Passed{Code: code}
	}
	a := api.Arrival{Kind: api.Arrive, From: s.Seq, Data: s.Data, Fin: s.Fin}
	w.settle(w.Missing(), &a.From)
	return w.answer(a)
}

func (w *Wire) bringBack(id int) api.Passed {
	s, code := w.segment(id, false)
	if code != api.OK {
		return api.Passed{Code: code}
	}
	d := api.Deed{Kind: api.Heard, Ack: s.Ack, Window: s.Window, Sacks: s.Sacks}
	l := []*int{&d.Ack}
	for i := range d.Sacks {
		l = append(l, &d.Sacks[i].From, &d.Sacks[i].To)
	}
	w.settle(w.Unheard(), l...)
	x := w.Do(d)
	if x.Code != api.OK {
		return api.Passed{Code: x.Code}
	}
	return api.Passed{Left: x.Left}
}

// answer: this arrives at who hears; if it is not refused, the frame of what is told is put.
func (w *Wire) answer(a api.Arrival) api.Passed {
	x := w.Hear(a)
	if x.Code != api.OK {
		return api.Passed{Code: x.Code}
	}
	s := api.Segment{Acks: true, Ack: w.serial(x.Ack), Window: x.Window}
	for _, r := range x.Sacks {
		s.Sacks = append(s.Sacks, api.Range{From: w.serial(r.From), To: w.serial(r.To)})
	}
	return api.Passed{Put: true, Id: w.put(s, false), Data: x.Data, End: x.End}
}

// put: the number of the frame of a segment, which is under way now.
func (w *Wire) put(s api.Segment, there bool) int {
	b, _ := seg.Encode(s) // what the two ends tell is never refused
	w.frames = append(w.frames, frame{bytes: b, there: there})
	return len(w.frames) - 1
}

// has: whether a frame has this number.
func (w *Wire) has(id int) bool {
	return id >= 0 && id < len(w.frames)
}

// segment: that of a frame, if it is under way there, or back.
func (w *Wire) segment(id int, there bool) (api.Segment, api.Errno) {
	if !w.has(id) || w.frames[id].there != there {
		return api.Segment{}, api.ErrNone
	}
	return seg.Decode(w.frames[id].bytes)
}

// serial: the serial number of a place.
func (w *Wire) serial(place int) int {
	return (w.first + place) % api.Round
}

// settle: each of these serial numbers becomes the place nearest to near that has it. One below 0 is not looked for here: both ends refuse it, with ErrRange.
func (w *Wire) settle(near int, l ...*int) {
	for _, n := range l {
		far, _ := serial.Far(w.first, *n) // what Decode tells are serial numbers,
		*n, _ = serial.Near(far, near)    // and near is a place
	}
}
