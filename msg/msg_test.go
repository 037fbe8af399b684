package msg_test

import (
	"bytes"
	"fmt"
	"math"
	"slices"
	"strings"
	"testing"

	"packthread/api"
	"packthread/msg"
)

// The kinds, the limits and the errors, written out: they must not move with the program.
const (
	open      = 1
	shutdown  = 2
	readAt    = 3
	writeAt   = 4
	status    = 5
	names     = 6
	newDir    = 7
	del       = 8
	move      = 9
	symlink   = 10
	lastKind  = symlink
	mostText  = 200        // bytes of a text of a request
	mostData  = 100        // bytes of Data
	mostName  = 16         // bytes of a name
	mostNames = 40         // names of a reply
	one       = 255        // the greatest number in one byte
	two       = 65535      // in two
	four      = 4294967295 // in four
	replyHead = 14         // bytes of a reply ahead of its Data

	ok       = api.Errno(0)
	errSize  = api.Errno(1)
	errRange = api.Errno(2)
	errKind  = api.Errno(3)
	errForm  = api.Errno(4)
	errShort = api.Errno(5)
)

// parts: what each kind names, in order.
var parts = [lastKind + 1]string{
	open: "Path How", shutdown: "Handle", readAt: "Handle At Count", writeAt: "Handle At Data",
	status: "Path", names: "Path", newDir: "Path", del: "Path", move: "Path To", symlink: "Path To",
}

// allParts: of all kinds.
const allParts = "Path To How Handle At Count Data"

// naming: the kinds that name this.
func naming(part string) []int {
	var l []int
	for kind := open; kind <= lastKind; kind++ {
		if slices.Contains(strings.Fields(parts[kind]), part) {
			l = append(l, kind)
		}
	}
	return l
}

// numberOf: the number of a request that goes by this name.
func numberOf(r *api.Request, name string) *int {
	return map[string]*int{"Mark": &r.Mark, "How": &r.How, "Handle": &r.Handle, "At": &r.At, "Count": &r.Count}[name]
}

// textOf: the text of a request that goes by this name.
func textOf(r *api.Request, name string) *string {
	return map[string]*string{"Path": &r.Path, "To": &r.To}[name]
}

// mostOf: the greatest number that fits.
var mostOf = map[string]int{"Mark": four, "How": one, "Handle": four, "At": four, "Count": two}

// number: the bytes of one, the highest first.
func number(n, wide int) []byte {
	b := make([]byte, wide)
	for i := wide - 1; i >= 0; i-- {
		b[i] = byte(n % 256)
		n /= 256
	}
	return b
}

// body: the bytes of a text, or of Data.
func body[T string | []byte](t T) []byte {
	return append(number(len(t), 2), t...)
}

// asBytes: what the bytes of a request must be, whatever they tell.
func asBytes(r api.Request) []byte {
	b := append(number(r.Kind, 1), number(r.Mark, 4)...)
	for _, part := range strings.Fields(parts[r.Kind]) {
		switch part {
		case "Path":
			b = append(b, body(r.Path)...)
		case "To":
			b = append(b, body(r.To)...)
		case "How":
			b = append(b, number(r.How, 1)...)
		case "Handle":
			b = append(b, number(r.Handle, 4)...)
		case "At":
			b = append(b, number(r.At, 4)...)
		case "Count":
			b = append(b, number(r.Count, 2)...)
		case "Data":
			b = append(b, body(r.Data)...)
		}
	}
	return b
}

// replyBytes: what the bytes of a reply must be, whatever they tell.
func replyBytes(r api.Reply) []byte {
	b := slices.Concat(number(r.Mark, 4), number(int(r.Code), 1), number(r.Handle, 4), number(r.Kind, 1), number(r.Size, 4), body(r.Data), number(len(r.Names), 1))
	for _, name := range r.Names {
		b = append(b, body(name)...)
	}
	return b
}

// sameRequest: whether two requests are; Data without bytes may be nil or not.
func sameRequest(a, b api.Request) bool {
	return a.Kind == b.Kind && a.Mark == b.Mark && a.Path == b.Path && a.To == b.To && a.How == b.How &&
		a.Handle == b.Handle && a.At == b.At && a.Count == b.Count && bytes.Equal(a.Data, b.Data)
}

// sameReply: whether two replies are; lists without elements may be nil or not.
func sameReply(a, b api.Reply) bool {
	return a.Mark == b.Mark && a.Code == b.Code && a.Handle == b.Handle && a.Kind == b.Kind && a.Size == b.Size &&
		bytes.Equal(a.Data, b.Data) && slices.Equal(a.Names, b.Names)
}

// show: a value as text that is not too long.
func show(v any) string {
	s := fmt.Sprintf("%#v", v)
	if len(s) > 600 {
		return s[:600] + ".."
	}
	return s
}

func isAsk(t *testing.T, r api.Request, want []byte, code api.Errno) {
	if b, e := msg.Ask(r); !bytes.Equal(b, want) || e != code {
		t.Helper()
		t.Fatalf("Ask(%s): %v %d, want %v %d", show(r), b, e, want, code)
	}
}

func isAsked(t *testing.T, b []byte, want api.Request, code api.Errno) {
	if r, e := msg.Asked(b); !sameRequest(r, want) || e != code {
		t.Helper()
		t.Fatalf("Asked(%s): %s %d, want %s %d", show(b), show(r), e, show(want), code)
	}
}

// isBoth: r comes to b, and b to r.
func isBoth(t *testing.T, r api.Request, b []byte) {
	t.Helper()
	isAsk(t, r, b, ok)
	isAsked(t, b, r, ok)
}

func isNoRequest(t *testing.T, r api.Request, code api.Errno) {
	t.Helper()
	isAsk(t, r, nil, code)
}

func areNoRequest(t *testing.T, b []byte, code api.Errno) {
	t.Helper()
	isAsked(t, b, api.Request{}, code)
}

func isAnswer(t *testing.T, r api.Reply, want []byte, code api.Errno) {
	if b, e := msg.Answer(r); !bytes.Equal(b, want) || e != code {
		t.Helper()
		t.Fatalf("Answer(%s): %v %d, want %v %d", show(r), b, e, want, code)
	}
}

func isAnswered(t *testing.T, b []byte, want api.Reply, code api.Errno) {
	if r, e := msg.Answered(b); !sameReply(r, want) || e != code {
		t.Helper()
		t.Fatalf("Answered(%s): %s %d, want %s %d", show(b), show(r), e, show(want), code)
	}
}

// isBothReply: r comes to b, and b to r.
func isBothReply(t *testing.T, r api.Reply, b []byte) {
	t.Helper()
	isAnswer(t, r, b, ok)
	isAnswered(t, b, r, ok)
}

func isNoReply(t *testing.T, r api.Reply, code api.Errno) {
	t.Helper()
	isAnswer(t, r, nil, code)
}

func areNoReply(t *testing.T, b []byte, code api.Errno) {
	t.Helper()
	isAnswered(t, b, api.Reply{}, code)
}

// chance: n bytes that look like chance, the same ones each time.
func chance(n, seed int) []byte {
	b := make([]byte, n)
	x := uint32(seed)*2654435761 + 1
	for i := range b {
		x = x*1664525 + 1013904223
		b[i] = byte(x >> 24)
	}
	return b
}

// lengths: those that two bytes may tell: all small ones, and some on both sides of each number whose lower byte is 0.
func lengths() []int {
	var l []int
	for n := range two + 1 {
		if low := n % 256; n < 1100 || low < 2 || low == 255 || low == n/256 {
			l = append(l, n)
		}
	}
	return l
}

// text: so many bytes of a text.
func text(n int) string {
	return strings.Repeat("/some/path", n/10+1)[:n]
}

// list: n names, each another one.
func list(n int) []string {
	l := make([]string, n)
	for i := range l {
		l[i] = fmt.Sprintf("n%d", i)
	}
	return l
}

// full: a request of a kind, with all that it names at another value.
func full(kind int) api.Request {
	r := api.Request{Kind: kind, Mark: 0x01020304}
	for _, part := range strings.Fields(parts[kind]) {
		fill(&r, part)
	}
	return r
}

// fill: a part of a request with something in it.
func fill(r *api.Request, part string) {
	switch part {
	case "Path":
		r.Path = "/a/bc"
	case "To":
		r.To = "../d"
	case "How":
		r.How = 0x11
	case "Handle":
		r.Handle = 0x21222324
	case "At":
		r.At = 0x31323334
	case "Count":
		r.Count = 0x4142
	case "Data":
		r.Data = []byte{0x51, 0, 0x52}
	}
}

// fullReply: a reply with all there may be.
func fullReply() api.Reply {
	return api.Reply{Mark: 0x01020304, Code: 0x11, Handle: 0x21222324, Kind: 0x31, Size: 0x41424344, Data: []byte{0x51, 0, 0x52}, Names: []string{"a", "bc", "def"}}
}

// numbers: those that fit in so much as most, at the bounds and between.
func numbers(most int) []int {
	l := []int{0, 1, 2, 10, 127, 128, 129, 254, 255, 256, 257, 0x0102, 32767, 32768, 65534, 65535, 65536, 65537, 0x010203, 1<<24 - 1, 1 << 24, 1<<24 + 1, 0x01020304, 0x04030201, 1<<31 - 1, 1 << 31, 1<<31 + 1, 1<<32 - 2, 1<<32 - 1}
	return slices.DeleteFunc(l, func(n int) bool { return n > most })
}

// noNumbers: those that do not, some of which look as if they did when bits are cut off.
func noNumbers(most int) []int {
	l := []int{
		-1, -2, -3, -10, -128, -255, -256, -257, -65535, -65536, -65537, -1 << 24, -1 << 31, -1<<31 - 1, -1<<32 + 1, -1 << 32, -1<<32 - 1, -1 << 48, -1 << 62, math.MinInt64, math.MinInt64 + 1,
		most + 1, most + 2, most + 3, 2 * most, 2*most + 1, 2*most + 2, 256 * (most + 1), 256*(most+1) + 7,
		1 << 32, 1<<32 + 1, 1<<32 + 7, 1 << 40, 1 << 48, 1<<48 + 1, 1 << 62, 1<<62 + 7, math.MaxInt64 - 1, math.MaxInt64,
	}
	return l
}

// noKinds: those of no request, some of which look like one when bits are cut off.
func noKinds() []int {
	l := []int{-1, 0, 11, 12, math.MaxInt64, math.MinInt64, math.MinInt64 + 1}
	for kind := range lastKind + 1 {
		l = append(l, -kind-1, 256+kind, 65536+kind, 1<<32+kind, kind-256, kind-1<<32, 1<<62+kind)
	}
	for kind := lastKind + 1; kind < 300; kind++ {
		l = append(l, kind)
	}
	return l
}
