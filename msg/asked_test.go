package msg_test

import (
	"bytes"
	"slices"
	"testing"

	"packthread/api"
	"packthread/msg"
)

// P13.2: Asked.

// goodRequests: of each kind, of little and of much.
func goodRequests() []api.Request {
	var l []api.Request
	for kind := open; kind <= lastKind; kind++ {
		most := api.Request{Kind: kind, Mark: four}
		for _, part := range []string{"Path", "To", "How", "Handle", "At", "Count", "Data"} {
			if !slices.Contains(naming(part), kind) {
				continue
			}
			switch part {
			case "Path", "To":
				*textOf(&most, part) = text(mostText)
			case "Data":
				most.Data = chance(mostData, kind)
			default:
				*numberOf(&most, part) = mostOf[part]
			}
		}
		l = append(l, api.Request{Kind: kind}, full(kind), most)
	}
	return l
}

func TestAskedOfTooFewBytesForAMark(t *testing.T) {
	areNoRequest(t, nil, errShort)
	areNoRequest(t, []byte{}, errShort)
	for kind := range 256 { // also where there is no such kind
		for n := 1; n < 5; n++ {
			for _, v := range []byte{0, 1, 255} {
				b := append([]byte{byte(kind)}, bytes.Repeat([]byte{v}, n-1)...)
				areNoRequest(t, b, errShort)
			}
		}
	}
}

func TestAskedOfNoKind(t *testing.T) {
	for kind := range 256 {
		if kind >= open && kind <= lastKind {
			continue
		}
		for n := 5; n < 40; n++ {
			for _, v := range []byte{0, 1, 255} {
				b := append([]byte{byte(kind)}, bytes.Repeat([]byte{v}, n-1)...)
				areNoRequest(t, b, errKind)
			}
		}
		for _, r := range goodRequests() {
			b := asBytes(r)
			b[0] = byte(kind)
			areNoRequest(t, b, errKind)
			areNoRequest(t, b[:5], errKind)
			areNoRequest(t, b[:4], errShort)
			areNoRequest(t, append(b, 0), errKind)
		}
	}
}

func TestAskedOfBytesThatAreCutOff(t *testing.T) {
	for _, r := range goodRequests() {
		b := asBytes(r)
		for n := range b {
			areNoRequest(t, b[:n], errShort)
			areNoRequest(t, b[:n:n], errShort)
		}
		isAsked(t, b, r, ok)
	}
}

func TestAskedOfBytesWithMoreBehind(t *testing.T) {
	for _, r := range goodRequests() {
		b := asBytes(r)
		for v := range 256 {
			areNoRequest(t, append(slices.Clone(b), byte(v)), errForm)
		}
		for _, n := range []int{2, 3, 100, 65536, 1 << 20} {
			areNoRequest(t, append(slices.Clone(b), make([]byte, n)...), errForm)
		}
		areNoRequest(t, append(slices.Clone(b), b...), errForm)
		room := append(slices.Clone(b), 1, 2, 3) // what lies behind in memory is not read
		isAsked(t, room[:len(b)], r, ok)
	}
}

func TestAskedOfTextsOfAllLengths(t *testing.T) {
	for _, kind := range []int{open, status, names, newDir, del, move, symlink} {
		for n := range mostText + 1 {
			r := api.Request{Kind: kind, Mark: n, Path: string(chance(n, n))}
			isAsked(t, asBytes(r), r, ok)
			if kind == move || kind == symlink {
				r.To, r.Path = r.Path, "x"
				isAsked(t, asBytes(r), r, ok)
			}
		}
	}
}

func TestAskedOfTextsThatAreTooLong(t *testing.T) {
	for _, n := range []int{mostText + 1, mostText + 2, 255, 256, 257, 256 + mostText, 1000, 32768, 65534, 65535} {
		for _, kind := range []int{open, status, names, newDir, del, move, symlink} {
			r := api.Request{Kind: kind, Path: text(n), To: "x"}
			b := asBytes(r)
			areNoRequest(t, b, errForm)
			areNoRequest(t, append(b, 0), errForm)
			for _, cut := range []int{1, 2, 3, n / 2, n} { // it ends ahead of its end: that is named first
				areNoRequest(t, b[:len(b)-cut], errShort)
			}
			areNoRequest(t, b[:7], errShort)
			areNoRequest(t, b[:6], errShort)
		}
		for _, kind := range []int{move, symlink} {
			b := asBytes(api.Request{Kind: kind, Path: "x", To: text(n)})
			areNoRequest(t, b, errForm)
			areNoRequest(t, b[:len(b)-1], errShort)
			both := asBytes(api.Request{Kind: kind, Path: text(n), To: text(n)})
			areNoRequest(t, both, errForm)
			areNoRequest(t, both[:len(both)-1], errShort)
			areNoRequest(t, both[:7+n], errShort)
		}
	}
}

func TestAskedOfData(t *testing.T) {
	for n := range mostData + 1 {
		r := api.Request{Kind: writeAt, Mark: n, At: 3, Data: chance(n, n)}
		isAsked(t, asBytes(r), r, ok)
	}
	for _, n := range []int{mostData + 1, mostData + 2, mostText, 255, 256, 257, 256 + mostData, 1000, 32768, 65534, 65535} {
		b := asBytes(api.Request{Kind: writeAt, Mark: 5, Data: make([]byte, n)})
		areNoRequest(t, b, errForm)
		areNoRequest(t, append(b, 0), errForm)
		for _, cut := range []int{1, 2, n - mostData, n / 2, n, n + 1, n + 2, n + 3} {
			areNoRequest(t, b[:len(b)-cut], errShort)
		}
	}
}

func TestAskedOfLengthsThatDoNotFit(t *testing.T) {
	for n := range mostText + 1 { // a length other than that of what stands there
		for _, other := range []int{0, 1, n - 1, n + 1, mostText, mostText + 1, n + 256, 65535} {
			if other < 0 || other == n {
				continue
			}
			b := asBytes(api.Request{Kind: status, Path: text(n)})
			copy(b[5:], number(other, 2))
			if other < n {
				areNoRequest(t, b, errForm)
			} else {
				areNoRequest(t, b, errShort)
			}
		}
	}
}

// TestBothBytesOfALength: with nothing behind it, with just so much, with one less, and with one more.
func TestBothBytesOfALength(t *testing.T) {
	zeros := make([]byte, 16+65536)
	for _, n := range lengths() {
		for kind, most := range map[int]int{status: mostText, writeAt: mostData} {
			ahead := 7
			if kind == writeAt {
				ahead = 15
			}
			zeros[0] = byte(kind)
			copy(zeros[ahead-2:], number(n, 2))
			r := api.Request{Kind: kind}
			if kind == writeAt {
				r.Data = zeros[ahead : ahead+n]
			} else {
				r.Path = string(zeros[ahead : ahead+n])
			}
			if n <= most {
				isAsked(t, zeros[:ahead+n], r, ok)
			} else {
				areNoRequest(t, zeros[:ahead+n], errForm)
			}
			areNoRequest(t, zeros[:ahead+n+1], errForm)
			if n > 0 {
				areNoRequest(t, zeros[:ahead], errShort)
				areNoRequest(t, zeros[:ahead+n-1], errShort)
			}
			copy(zeros[ahead-2:], []byte{0, 0})
		}
	}
}

// endOf: where the request that b begins with ends, and whether there may be one so long; below 0: b ends ahead of that.
func endOf(b []byte) (int, bool) {
	lengths, at, may := []int{}, 5, true // the most bytes of each length that is to come
	switch b[0] {
	case open, status, names, newDir, del:
		lengths = []int{mostText}
	case move, symlink:
		lengths = []int{mostText, mostText}
	case shutdown:
		at = 9
	case readAt:
		at = 15
	case writeAt:
		at, lengths = 13, []int{mostData}
	}
	for _, most := range lengths {
		if len(b) < at+2 {
			return -1, false
		}
		n := 256*int(b[at]) + int(b[at+1])
		at, may = at+2+n, may && n <= most
	}
	if b[0] == open {
		at++
	}
	if len(b) < at {
		return -1, false
	}
	return at, may
}

// isAsEndOf: bytes are read as their end says, and what is read comes to just these bytes.
func isAsEndOf(t *testing.T, b []byte) bool {
	t.Helper()
	switch {
	case len(b) < 5:
		areNoRequest(t, b, errShort)
		return false
	case b[0] < open || b[0] > lastKind:
		areNoRequest(t, b, errKind)
		return false
	}
	end, may := endOf(b)
	switch {
	case end < 0:
		areNoRequest(t, b, errShort)
		return false
	case end < len(b) || !may:
		areNoRequest(t, b, errForm)
		return false
	}
	r, e := msg.Asked(b)
	if e != ok || !bytes.Equal(asBytes(r), b) {
		t.Fatalf("Asked(%s): %s %d", show(b), show(r), e)
	}
	isAsk(t, r, b, ok)
	return true
}

func TestAskedOfMixedBytes(t *testing.T) {
	read := 0
	for seed := range 200000 {
		b := chance(5+seed%30, seed)
		b[0] = b[0] % (lastKind + 2)
		for _, at := range []int{5, 13} { // lengths that are often short enough
			if len(b) > at+1 {
				b[at], b[at+1] = b[at]/255, b[at+1]%24
			}
		}
		if isAsEndOf(t, b) {
			read++
		}
	}
	if read < 2000 || read > 190000 {
		t.Fatalf("%d of them are read", read)
	}
}

// TestAskedOfAllShortBytes: all lists of 0 to 6 bytes of some behind each head.
func TestAskedOfAllShortBytes(t *testing.T) {
	some := []byte{0, 1, 2, 255}
	for kind := range lastKind + 2 {
		l := [][]byte{{byte(kind), 9, 8, 7, 6}}
		for range 7 {
			var longer [][]byte
			for _, b := range l {
				isAsEndOf(t, b)
				for _, v := range some {
					longer = append(longer, append(slices.Clone(b), v))
				}
			}
			l = longer
		}
	}
}

// TestAskedOfBytesOfWhichOneIsAnother: each byte of good ones, at each value.
func TestAskedOfBytesOfWhichOneIsAnother(t *testing.T) {
	for _, r := range goodRequests() {
		b := asBytes(r)
		for at := range b {
			was := b[at]
			for v := range 256 {
				b[at] = byte(v)
				isAsEndOf(t, b)
			}
			b[at] = was
		}
	}
}

func TestAskedOfEachByteOfNumbers(t *testing.T) {
	for at := range 14 {
		for v := range 256 {
			b := []byte{readAt, 0, 0, 0, 0, 0, 0, 0, 0, 0, 0, 0, 0, 0, 0}
			b[1+at] = byte(v)
			r := api.Request{Kind: readAt}
			switch {
			case at < 4:
				r.Mark = v << (8 * (3 - at))
			case at < 8:
				r.Handle = v << (8 * (7 - at))
			case at < 12:
				r.At = v << (8 * (11 - at))
			default:
				r.Count = v << (8 * (13 - at))
			}
			isBoth(t, r, b)
		}
	}
}

func TestAskedTellsTheErrorThatIsNamedFirst(t *testing.T) {
	areNoRequest(t, []byte{0, 0, 0, 0}, errShort)                                  // no kind, and too few bytes for a Mark
	areNoRequest(t, []byte{0, 0, 0, 0, 0}, errKind)                                // no kind, and too few bytes for anything behind
	areNoRequest(t, []byte{11, 0, 0, 0, 0, 0, 201}, errKind)                       // and a length that is too great
	areNoRequest(t, []byte{status, 0, 0, 0, 0, 0, 201}, errShort)                  // that length, and too few bytes for it
	areNoRequest(t, []byte{status, 0, 0, 0, 0, 0, 0, 1}, errForm)                  // one byte too many
	areNoRequest(t, append([]byte{9, 0, 0, 0, 0, 0, 201}, text(201)...), errShort) // a text that is too long, and none behind it
	areNoRequest(t, append([]byte{9, 0, 0, 0, 0, 0, 201}, text(203)...), errShort)
	b := append([]byte{9, 0, 0, 0, 0, 0, 201}, text(201)...)
	areNoRequest(t, append(b, 0, 0), errForm)
}
