package msg_test

import (
	"bytes"
	"slices"
	"strings"
	"testing"

	"packthread/api"
	"packthread/msg"
)

// P13.3: Answer and Answered.

// replyMost: the greatest number that fits.
var replyMost = map[string]int{"Mark": four, "Code": one, "Handle": four, "Kind": one, "Size": four}

// setReply: a reply with this number there.
func setReply(r api.Reply, name string, n int) api.Reply {
	switch name {
	case "Mark":
		r.Mark = n
	case "Code":
		r.Code = api.Errno(n)
	case "Handle":
		r.Handle = n
	case "Kind":
		r.Kind = n
	case "Size":
		r.Size = n
	}
	return r
}

// longNames: n names, each as long as one may be.
func longNames(n int) []string {
	l := list(n)
	for i := range l {
		l[i] += strings.Repeat("x", mostName-len(l[i]))
	}
	return l
}

// goodReplies: of little and of much.
func goodReplies() []api.Reply {
	return []api.Reply{
		{}, fullReply(), {Names: []string{"a"}}, {Names: []string{"a", "a"}}, {Data: []byte{9}}, {Mark: 1, Code: 2, Handle: 3, Kind: 4, Size: 5},
		{Mark: four, Code: one, Handle: four, Kind: one, Size: four, Data: chance(mostData, 1), Names: longNames(mostNames)},
		{Data: make([]byte, mostData)}, {Names: list(mostNames)}, {Names: []string{strings.Repeat("\xff", mostName), "...", ".a", "a.", " "}},
	}
}

// notNames: what is no name.
func notNames() []string {
	return []string{
		"", ".", "..", "/", "\x00", "a/", "/a", "a/b", "//", "a\x00", "\x00a", "a\x00b", "./a", "../a", "a/..", strings.Repeat("a", mostName+1), strings.Repeat(".", mostName+1),
		strings.Repeat("a", mostName-1) + "/", strings.Repeat("a", mostName-1) + "\x00", strings.Repeat("a", mostName) + "/", strings.Repeat("a", 201), strings.Repeat("a", 256), strings.Repeat("a", 256+mostName), strings.Repeat("a", 65535),
	}
}

// oddNames: what is one all the same.
func oddNames() []string {
	return []string{"...", "....", ".a", "a.", "..a", "a..", " ", "\t", "\\", "\x01", "\x7f", "\x80", "\xff\xfe", "\u00e4", "\u20ac", "-", "*", strings.Repeat(".", mostName), strings.Repeat("\xff", mostName), strings.Repeat("a", mostName)}
}

func TestBytesOfReplies(t *testing.T) {
	isBothReply(t, api.Reply{}, []byte{0, 0, 0, 0, 0, 0, 0, 0, 0, 0, 0, 0, 0, 0, 0, 0, 0})
	isBothReply(t, api.Reply{Data: []byte{}, Names: []string{}}, []byte{0, 0, 0, 0, 0, 0, 0, 0, 0, 0, 0, 0, 0, 0, 0, 0, 0})
	isBothReply(t, api.Reply{Mark: 0x01020304, Code: 5, Handle: 0x06070809, Kind: 10, Size: 0x0b0c0d0e}, []byte{1, 2, 3, 4, 5, 6, 7, 8, 9, 10, 11, 12, 13, 14, 0, 0, 0})
	isBothReply(t, api.Reply{Data: []byte{7, 0, 9}}, []byte{0, 0, 0, 0, 0, 0, 0, 0, 0, 0, 0, 0, 0, 0, 0, 3, 7, 0, 9, 0})
	isBothReply(t, api.Reply{Names: []string{"a"}}, []byte{0, 0, 0, 0, 0, 0, 0, 0, 0, 0, 0, 0, 0, 0, 0, 0, 1, 0, 1, 97})
	isBothReply(t, api.Reply{Names: []string{"b", "ab", "b"}}, []byte{0, 0, 0, 0, 0, 0, 0, 0, 0, 0, 0, 0, 0, 0, 0, 0, 3, 0, 1, 98, 0, 2, 97, 98, 0, 1, 98})
	isBothReply(t, api.Reply{Mark: 258, Code: api.ErrOld, Handle: 1 << 31, Kind: api.File, Size: 256, Data: []byte{1, 2}, Names: []string{"x", "yz"}}, []byte{0, 0, 1, 2, 17, 128, 0, 0, 0, 2, 0, 0, 1, 0, 0, 2, 1, 2, 2, 0, 1, 120, 0, 2, 121, 122})
	isBothReply(t, api.Reply{Mark: four, Code: one, Handle: four, Kind: one, Size: four}, []byte{255, 255, 255, 255, 255, 255, 255, 255, 255, 255, 255, 255, 255, 255, 0, 0, 0})
	isBothReply(t, fullReply(), replyBytes(fullReply()))
}

func TestGoodReplies(t *testing.T) {
	for _, r := range goodReplies() {
		isBothReply(t, r, replyBytes(r))
	}
}

func TestAnswerOfNumbers(t *testing.T) {
	for name, most := range replyMost {
		for _, r := range goodReplies() {
			for _, n := range numbers(most) {
				s := setReply(r, name, n)
				isBothReply(t, s, replyBytes(s))
			}
			for _, n := range noNumbers(most) {
				isNoReply(t, setReply(r, name, n), errRange)
			}
		}
	}
	for n := range one + 1 { // what they mean is not looked at
		isBothReply(t, api.Reply{Code: api.Errno(n)}, []byte{0, 0, 0, 0, byte(n), 0, 0, 0, 0, 0, 0, 0, 0, 0, 0, 0, 0})
		isBothReply(t, api.Reply{Kind: n}, []byte{0, 0, 0, 0, 0, 0, 0, 0, 0, byte(n), 0, 0, 0, 0, 0, 0, 0})
	}
}

func TestReplyNumbersBeyondTheirBounds(t *testing.T) {
	isNoReply(t, api.Reply{Mark: four + 1}, errRange)
	isNoReply(t, api.Reply{Mark: -1}, errRange)
	isNoReply(t, api.Reply{Code: one + 1}, errRange)
	isNoReply(t, api.Reply{Code: -1}, errRange)
	isNoReply(t, api.Reply{Handle: four + 1}, errRange)
	isNoReply(t, api.Reply{Handle: -1}, errRange)
	isNoReply(t, api.Reply{Kind: one + 1}, errRange)
	isNoReply(t, api.Reply{Kind: -1}, errRange)
	isNoReply(t, api.Reply{Size: four + 1}, errRange)
	isNoReply(t, api.Reply{Size: -1}, errRange)
}

func TestAnswerOfData(t *testing.T) {
	for _, r := range goodReplies() {
		for n := range mostData + 1 {
			r.Data = chance(n, n)
			isBothReply(t, r, replyBytes(r))
		}
		for _, n := range []int{mostData + 1, mostData + 2, mostText, 255, 256, 257, 256 + mostData, 65535, 65536, 65536 + mostData, 1 << 20} {
			r.Data = make([]byte, n)
			isNoReply(t, r, errSize)
		}
	}
}

func TestAnswerOfManyNames(t *testing.T) {
	for n := range mostNames + 1 {
		for _, r := range []api.Reply{{Names: list(n)}, {Mark: n, Data: chance(mostData, n), Names: longNames(n)}, {Names: slices.Repeat([]string{"same"}, n)}} {
			isBothReply(t, r, replyBytes(r))
		}
	}
	for _, n := range []int{mostNames + 1, mostNames + 2, 100, 254, 255, 256, 257, 256 + mostNames, 512, 65536, 65537} {
		isNoReply(t, api.Reply{Names: list(n)}, errSize)
		isNoReply(t, api.Reply{Names: make([]string, n)}, errSize)
		isNoReply(t, api.Reply{Names: list(n), Data: make([]byte, mostData)}, errSize)
	}
}

func TestAnswerOfNames(t *testing.T) {
	for b := range 256 { // each byte alone, and within
		for _, name := range []string{string([]byte{byte(b)}), "a" + string([]byte{byte(b)}), string([]byte{byte(b)}) + "a", "a" + string([]byte{byte(b)}) + "a"} {
			r := api.Reply{Names: []string{name}}
			if b == 0 || b == 47 || name == "." {
				isNoReply(t, r, errForm)
				areNoReply(t, replyBytes(r), errForm)
			} else {
				isBothReply(t, r, replyBytes(r))
			}
		}
	}
	for n := range mostName {
		name := strings.Repeat("x", n+1)
		isBothReply(t, api.Reply{Names: []string{name}}, replyBytes(api.Reply{Names: []string{name}}))
	}
	for _, name := range oddNames() {
		r := api.Reply{Names: []string{name, name}}
		isBothReply(t, r, replyBytes(r))
	}
}

func TestAnswerOfWhatIsNoName(t *testing.T) {
	for _, name := range notNames() {
		isNoReply(t, api.Reply{Names: []string{name}}, errForm)
		for _, n := range []int{1, 2, 3, 12, 13, 14, mostNames} { // wherever it stands
			for at := range n {
				l := list(n)
				l[at] = name
				isNoReply(t, api.Reply{Mark: 1, Data: []byte("ab"), Names: l}, errForm)
			}
		}
	}
}

func TestAnswerTellsTheErrorThatIsNamedFirst(t *testing.T) {
	// each step mends what was told
	r := api.Reply{Mark: -1, Code: one + 1, Handle: -1, Kind: one + 1, Size: four + 1, Data: make([]byte, mostData+1), Names: slices.Repeat([]string{".."}, mostNames+1)}
	isNoReply(t, r, errRange)
	r.Mark = 0
	isNoReply(t, r, errRange)
	r.Handle = 0
	isNoReply(t, r, errRange)
	r.Kind = 0
	isNoReply(t, r, errRange)
	r.Code = 0
	isNoReply(t, r, errRange)
	r.Size = 0
	isNoReply(t, r, errSize)
	r.Data = r.Data[1:]
	isNoReply(t, r, errSize)
	r.Names = r.Names[1:]
	isNoReply(t, r, errForm)
	r.Names = list(mostNames)
	isBothReply(t, r, replyBytes(r))
}

func TestAnswerOfAnyTwoErrors(t *testing.T) {
	all := []struct {
		code  api.Errno
		spoil func(r *api.Reply)
	}{
		{errRange, func(r *api.Reply) { r.Mark = -1 }}, {errRange, func(r *api.Reply) { r.Mark = four + 1 }},
		{errRange, func(r *api.Reply) { r.Code = -1 }}, {errRange, func(r *api.Reply) { r.Code = one + 1 }},
		{errRange, func(r *api.Reply) { r.Handle = -1 }}, {errRange, func(r *api.Reply) { r.Handle = four + 1 }},
		{errRange, func(r *api.Reply) { r.Kind = -1 }}, {errRange, func(r *api.Reply) { r.Kind = one + 1 }},
		{errRange, func(r *api.Reply) { r.Size = -1 }}, {errRange, func(r *api.Reply) { r.Size = four + 1 }},
		{errSize, func(r *api.Reply) { r.Data = make([]byte, mostData+1) }},
		{errSize, func(r *api.Reply) { r.Names = append(r.Names, list(mostNames+1)...) }}, {errSize, func(r *api.Reply) { r.Names = append(r.Names, list(256)...) }},
		{errForm, func(r *api.Reply) { r.Names = append(r.Names, "") }}, {errForm, func(r *api.Reply) { r.Names = append([]string{"a/b"}, r.Names...) }},
	}
	for i, first := range all {
		for _, second := range all[i:] {
			r, s := fullReply(), fullReply()
			first.spoil(&r)
			second.spoil(&r)
			second.spoil(&s)
			first.spoil(&s)
			for _, r := range []api.Reply{r, s} {
				isNoReply(t, r, first.code)
				if b, _ := msg.Answer(r); len(b) != 0 {
					t.Fatalf("Answer(%s): %v", show(r), b)
				}
			}
		}
	}
}

func TestAnsweredOfBytesThatAreCutOff(t *testing.T) {
	areNoReply(t, nil, errShort)
	areNoReply(t, []byte{}, errShort)
	for n := range replyHead + 3 {
		areNoReply(t, make([]byte, n), errShort)
		areNoReply(t, bytes.Repeat([]byte{255}, n), errShort)
	}
	for _, r := range goodReplies() {
		b := replyBytes(r)
		for n := range b {
			areNoReply(t, b[:n], errShort)
			areNoReply(t, b[:n:n], errShort)
		}
		isAnswered(t, b, r, ok)
	}
}

func TestAnsweredOfBytesWithMoreBehind(t *testing.T) {
	for _, r := range goodReplies() {
		b := replyBytes(r)
		for v := range 256 {
			areNoReply(t, append(slices.Clone(b), byte(v)), errForm)
		}
		for _, n := range []int{2, 3, 100, 65536, 1 << 20} {
			areNoReply(t, append(slices.Clone(b), make([]byte, n)...), errForm)
		}
		areNoReply(t, append(slices.Clone(b), b...), errForm)
		room := append(slices.Clone(b), 1, 2, 3) // what lies behind in memory is not read
		isAnswered(t, room[:len(b)], r, ok)
	}
}

func TestAnsweredOfTooMuchData(t *testing.T) {
	for _, n := range []int{mostData + 1, mostData + 2, mostText, 255, 256, 257, 256 + mostData, 1000, 32768, 65534, 65535} {
		b := replyBytes(api.Reply{Mark: 3, Data: make([]byte, n), Names: []string{"a"}})
		areNoReply(t, b, errForm)
		areNoReply(t, append(b, 0), errForm)
		for _, cut := range []int{1, 2, 3, 4, 5, n / 2, n, n + 3, n + 4, n + 5, n + 6} { // it ends ahead of its end: that is named first
			areNoReply(t, b[:len(b)-cut], errShort)
		}
	}
}

func TestAnsweredOfTooManyNames(t *testing.T) {
	for n := mostNames + 1; n < 256; n++ {
		b := replyBytes(api.Reply{Names: list(n)})
		areNoReply(t, b, errForm)
		areNoReply(t, append(b, 0), errForm)
		areNoReply(t, b[:len(b)-1], errShort)
		areNoReply(t, b[:replyHead+3], errShort)
		areNoReply(t, replyBytes(api.Reply{Names: make([]string, n)}), errForm)
	}
	for n := range 256 { // how many there are, and none of them
		b := make([]byte, replyHead+3)
		b[replyHead+2] = byte(n)
		if n == 0 {
			isAnswered(t, b, api.Reply{}, ok)
		} else {
			areNoReply(t, b, errShort)
		}
	}
}

func TestAnsweredOfWhatIsNoName(t *testing.T) {
	for _, name := range notNames() {
		for _, n := range []int{1, 2, 12, 13, mostNames} {
			for at := range n {
				l := list(n)
				l[at] = name
				b := replyBytes(api.Reply{Mark: 1, Data: []byte("ab"), Names: l})
				areNoReply(t, b, errForm)
				areNoReply(t, b[:len(b)-1], errShort)
				areNoReply(t, append(b, 9), errForm)
			}
		}
	}
	for _, name := range oddNames() {
		r := api.Reply{Names: []string{"a", name}}
		isAnswered(t, replyBytes(r), r, ok)
	}
}

// TestBothBytesOfReplyLengths: of Data and of a name, with just so much behind it, with one less, and with one more.
func TestBothBytesOfReplyLengths(t *testing.T) {
	zeros := make([]byte, replyHead+6+65536)
	letters := bytes.Repeat([]byte("n"), replyHead+6+65536)
	copy(letters, make([]byte, replyHead+2))
	letters[replyHead+2] = 1 // one name
	for _, n := range lengths() {
		copy(zeros[replyHead:], number(n, 2))
		end := replyHead + 3 + n
		if n <= mostData {
			isAnswered(t, zeros[:end], api.Reply{Data: make([]byte, n)}, ok)
		} else {
			areNoReply(t, zeros[:end], errForm)
		}
		areNoReply(t, zeros[:end+1], errForm)
		areNoReply(t, zeros[:end-1], errShort)
		copy(zeros[replyHead:], []byte{0, 0})

		copy(letters[replyHead+3:], number(n, 2))
		end = replyHead + 5 + n
		if n > 0 && n <= mostName {
			isAnswered(t, letters[:end], api.Reply{Names: []string{strings.Repeat("n", n)}}, ok)
		} else {
			areNoReply(t, letters[:end], errForm)
		}
		areNoReply(t, letters[:end+1], errForm)
		areNoReply(t, letters[:end-1], errShort)
	}
}

// nameMay: whether this is a name, told byte by byte.
func nameMay(b []byte) bool {
	for _, v := range b {
		if v == 0 || v == '/' {
			return false
		}
	}
	dots := len(b) <= 2 && strings.Trim(string(b), ".") == ""
	return len(b) >= 1 && len(b) <= mostName && !dots
}

// replyEnd: where the reply that b begins with ends, and whether there may be one of these parts; below 0: b ends ahead of that.
func replyEnd(b []byte) (int, bool) {
	at, count, may := replyHead, 0, true
	for i := 0; i <= count; i++ { // at first Data, and then each name
		if len(b) < at+2 {
			return -1, false
		}
		n := 256*int(b[at]) + int(b[at+1])
		at += 2 + n
		switch {
		case len(b) < at:
			return -1, false
		case i > 0:
			may = may && nameMay(b[at-n:at])
		case len(b) == at:
			return -1, false
		default:
			count = int(b[at])
			at++
			may = n <= mostData && count <= mostNames
		}
	}
	return at, may
}

// isAsReplyEnd: bytes are read as their end says, and what is read comes to just these bytes.
func isAsReplyEnd(t *testing.T, b []byte) bool {
	t.Helper()
	end, may := replyEnd(b)
	switch {
	case end < 0:
		areNoReply(t, b, errShort)
		return false
	case end < len(b) || !may:
		areNoReply(t, b, errForm)
		return false
	}
	r, e := msg.Answered(b)
	if e != ok || !bytes.Equal(replyBytes(r), b) {
		t.Fatalf("Answered(%s): %s %d", show(b), show(r), e)
	}
	isAnswer(t, r, b, ok)
	return true
}

func TestAnsweredOfMixedBytes(t *testing.T) {
	read := 0
	for seed := range 300000 {
		b := chance(replyHead+seed%24, seed)
		for at := replyHead; at < len(b); at++ { // lengths and counts that are often small enough, and some dots and slashes
			switch v := b[at]; {
			case v < 190:
				b[at] = v / 95
			case v < 220:
				b[at] = 46 + v%2
			}
		}
		if isAsReplyEnd(t, b) {
			read++
		}
	}
	if read < 1000 || read > 290000 {
		t.Fatalf("%d of them are read", read)
	}
}

// TestAnsweredOfAllShortBytes: all lists of 0 to 8 bytes of some behind a head.
func TestAnsweredOfAllShortBytes(t *testing.T) {
	l := [][]byte{chance(replyHead, 3)}
	for range 9 {
		var longer [][]byte
		for _, b := range l {
			isAsReplyEnd(t, b)
			for _, v := range []byte{0, 1, 2, 46} {
				longer = append(longer, append(slices.Clone(b), v))
			}
		}
		l = longer
	}
}

// TestAnsweredOfBytesOfWhichOneIsAnother: each byte of good ones, at each value.
func TestAnsweredOfBytesOfWhichOneIsAnother(t *testing.T) {
	for _, r := range goodReplies() {
		b := replyBytes(r)
		for at := range b {
			was := b[at]
			for v := range 256 {
				b[at] = byte(v)
				isAsReplyEnd(t, b)
			}
			b[at] = was
		}
	}
}

func TestAnsweredOfEachByteOfNumbers(t *testing.T) {
	for at := range replyHead {
		for v := range 256 {
			b := make([]byte, replyHead+3)
			b[at] = byte(v)
			var r api.Reply
			switch {
			case at < 4:
				r.Mark = v << (8 * (3 - at))
			case at == 4:
				r.Code = api.Errno(v)
			case at < 9:
				r.Handle = v << (8 * (8 - at))
			case at == 9:
				r.Kind = v
			default:
				r.Size = v << (8 * (13 - at))
			}
			isBothReply(t, r, b)
		}
	}
}

func TestAnsweredTellsTheErrorThatIsNamedFirst(t *testing.T) {
	head := make([]byte, replyHead)
	areNoReply(t, append(slices.Clone(head), 0, 0, 41), errShort)              // too many names, and none of them there
	areNoReply(t, append(slices.Clone(head), 0, 0, 2, 0, 0, 0), errShort)      // the first one is none, and the second one is cut off
	areNoReply(t, append(slices.Clone(head), 0, 0, 2, 0, 0, 0, 0), errForm)    // two that are none
	areNoReply(t, append(slices.Clone(head), 0, 0, 1, 0, 1, 47), errForm)      // one that is none
	areNoReply(t, append(slices.Clone(head), 255, 255, 1, 0, 1, 47), errShort) // too much Data, which is cut off
	areNoReply(t, append(make([]byte, replyHead+2), 0, 0), errForm)            // one byte too many
	areNoReply(t, append(append(slices.Clone(head), 0, 101), make([]byte, 101)...), errShort)
	areNoReply(t, append(append(slices.Clone(head), 0, 101), make([]byte, 102)...), errForm)
}
