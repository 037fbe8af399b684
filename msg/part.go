package msg

import (
	"bytes"
	"slices"

	"packthread/api"
)

// part: of a request or a reply: what stands in it at one place, and in its bytes.
type part interface {
	check() api.Errno             // what there is against it
	wipe()                        // it is 0, or empty, then
	lay(b []byte) []byte          // b, and its bytes behind
	take(b []byte) ([]byte, bool) // it is what b begins with; what stands behind that; false: b ends ahead of its end
}

// number: in so many bytes.
type number struct {
	at   *int
	wide int
}

// text: with its length ahead.
type text struct {
	at *string
}

// data: with its length ahead.
type data struct {
	at *[]byte
}

// check: what there is against parts: what is named first goes ahead, wherever it stands.
func check(parts []part) api.Errno {
	for _, code := range []api.Errno{api.ErrRange, api.ErrSize} {
		odd := func(p part) bool { return p.check() == code }
		if slices.ContainsFunc(parts, odd) {
			return code
		}
	}
	return api.OK
}

// lay: b, and the bytes of parts behind.
func lay(b []byte, parts []part) []byte {
	for _, p := range parts {
		b = p.lay(b)
	}
	return b
}

// take: parts are what b begins with; what stands behind them; false: b ends ahead of their end.
func take(b []byte, parts []part) ([]byte, bool) {
	for _, p := range parts {
		rest, ok := p.take(b)
		if !ok {
			return nil, false
		}
		b = rest
	}
	return b, true
}

func (n number) check() api.Errno {
	if *n.at < 0 || *n.at >= 1<<(8*n.wide) {
		return api.ErrRange
	}
	return api.OK
}

func (n number) wipe() { *n.at = 0 }

func (n number) lay(b []byte) []byte {
	for i := n.wide - 1; i >= 0; i-- {
		b = append(b, byte(*n.at>>(8*i)))
	}
	return b
}

func (n number) take(b []byte) ([]byte, bool) {
	if len(b) < n.wide {
		return nil, false
	}
	*n.at = 0
	for _, v := range b[:n.wide] {
		*n.at = *n.at<<8 | int(v)
	}
	return b[n.wide:], true
}

func (t text) check() api.Errno {
	if len(*t.at) > api.MaxPath {
		return api.ErrSize
	}
	return api.OK
}

func (t text) wipe() { *t.at = "" }

func (t text) lay(b []byte) []byte {
	return append(layLength(b, len(*t.at)), *t.at...)
}

func (t text) take(b []byte) ([]byte, bool) {
	own, rest, ok := split(b)
	*t.at = string(own)
	return rest, ok
}

func (d data) check() api.Errno {
	if len(*d.at) > api.MaxChunk {
		return api.ErrSize
	}
	return api.OK
}

func (d data) wipe() { *d.at = nil }

func (d data) lay(b []byte) []byte {
	return append(layLength(b, len(*d.at)), *d.at...)
}

func (d data) take(b []byte) ([]byte, bool) {
	own, rest, ok := split(b)
	*d.at = bytes.Clone(own)
	return rest, ok
}

// layLength: b, and a length in two bytes behind.
func layLength(b []byte, n int) []byte {
	return number{&n, 2}.lay(b)
}

// split: the bytes whose length stands ahead of them, and those behind; false: b ends ahead of their end.
func split(b []byte) (own, rest []byte, ok bool) {
	var n int
	b, ok = number{&n, 2}.take(b)
	if !ok || len(b) < n {
		return nil, nil, false
	}
	return b[:n], b[n:], true
}
