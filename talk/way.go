package talk

import (
	"packthread/api"
	"packthread/frame"
	"packthread/wire"
)

// way: a line, and what who hears has of a frame that did not come whole.
type way struct {
	line wire.Wire
	held []byte
}

// newWay: one on which nothing happened. ErrRange: there is no such line.
func newWay(c api.Line) (way, api.Errno) {
	line, code := wire.New(c)
	return way{line: line}, code
}

// give: the frame of these bytes is given to the line.
func (w *way) give(b []byte) api.Errno {
	f, code := frame.Wrap(b)
	if code != api.OK {
		return code
	}
	return w.line.Pass(api.Hop{Kind: api.Give, Data: f}).Code
}

// drain: the line is drained; what the frames have that are whole then, and what is told of that.
func (w *way) drain() ([][]byte, api.Talked) {
	x := w.line.Pass(api.Hop{Kind: api.Drain, Count: api.MaxBytes}) // so many may be asked for
	l, held, code := frame.Feed(w.held, x.Data)
	w.held = held // nothing, if that was refused
	if code != api.OK {
		return nil, api.Talked{Code: api.ErrSize}
	}
	return l, api.Talked{Put: x.Put, Id: x.Id}
}
