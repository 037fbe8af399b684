package msg_test

import (
	"bytes"
	"fmt"
	"slices"
	"sync"
	"testing"

	"packthread/api"
	"packthread/msg"
)

// What holds everywhere.

// badRequests: each kind, spoiled in each way.
func badRequests() []api.Request {
	var l []api.Request
	for kind := open; kind <= lastKind; kind++ {
		for _, w := range wrongs(kind) {
			r := full(kind)
			w.spoil(&r)
			l = append(l, r)
		}
	}
	return l
}

// badReplies: with too much, or with what is no name.
func badReplies() []api.Reply {
	l := []api.Reply{{Mark: -1}, {Data: make([]byte, mostData+1)}, {Names: list(mostNames + 1)}}
	for _, name := range notNames() {
		l = append(l, api.Reply{Mark: 3, Data: []byte("xy"), Names: []string{"a", name, "b"}})
	}
	return l
}

// someBytes: of requests and of replies, whole, cut off, and with more behind.
func someBytes() [][]byte {
	l := [][]byte{nil, {}, {0}, {0, 0, 0, 0, 0}, make([]byte, 17), bytes.Repeat([]byte{255}, 300)}
	var whole [][]byte
	for _, r := range goodRequests() {
		whole = append(whole, asBytes(r))
	}
	for _, r := range append(goodReplies(), badReplies()[1:]...) {
		whole = append(whole, replyBytes(r))
	}
	for _, b := range whole {
		l = append(l, b, b[:len(b)-1], append(slices.Clone(b), 7))
	}
	return l
}

// roomy: a list with spare room behind it, in which something stands.
func roomy[T any](l []T, spare ...T) []T {
	return append(slices.Clone(l), spare...)[:len(l)]
}

// wide: all that stands in lists, in spare room, too.
func wide(data []byte, names []string) string {
	return fmt.Sprintf("%d %d %q %q", len(data), len(names), data[:cap(data)], names[:cap(names)])
}

func TestWhatIsHandedInIsNotChanged(t *testing.T) {
	for _, r := range append(goodRequests(), badRequests()...) {
		r.Data = roomy(r.Data, 94, 95, 96)
		before := fmt.Sprintf("%#v", r) + wide(r.Data, nil)
		msg.Ask(r)
		if now := fmt.Sprintf("%#v", r) + wide(r.Data, nil); now != before {
			t.Fatalf("Ask: %s, was %s", now, before)
		}
	}
	for _, r := range append(goodReplies(), badReplies()...) {
		r.Data, r.Names = roomy(r.Data, 94, 95, 96), roomy(r.Names, "/", "..", "spare")
		before := fmt.Sprintf("%#v", r) + wide(r.Data, r.Names)
		msg.Answer(r)
		if now := fmt.Sprintf("%#v", r) + wide(r.Data, r.Names); now != before {
			t.Fatalf("Answer: %s, was %s", now, before)
		}
	}
	for _, b := range someBytes() {
		b = roomy(b, 94, 95, 96)
		before := wide(b, nil)
		msg.Asked(b)
		msg.Answered(b)
		if now := wide(b, nil); now != before {
			t.Fatalf("%s, was %s", now, before)
		}
	}
}

// scribble: over all that lists have room for.
func scribble(data []byte, names []string) {
	for i := range data[:cap(data)] {
		data[:cap(data)][i] ^= 0x55
	}
	for i := range names[:cap(names)] {
		names[:cap(names)][i] = "gone"
	}
}

func TestBytesOfRequestsAreNew(t *testing.T) {
	for _, r := range goodRequests() {
		r.Data = roomy(r.Data, make([]byte, 300)...)
		kept, want := fmt.Sprintf("%#v", r)+wide(r.Data, nil), asBytes(r)
		first, _ := msg.Ask(r)
		second, _ := msg.Ask(r)
		scribble(first, nil)
		if now := fmt.Sprintf("%#v", r) + wide(r.Data, nil); now != kept || !bytes.Equal(second, want) {
			t.Fatalf("what Ask(%s) answers is shared", kept)
		}
		scribble(r.Data, nil)
		if !bytes.Equal(second, want) {
			t.Fatalf("what Ask(%s) was given is kept", kept)
		}
	}
}

func TestBytesOfRepliesAreNew(t *testing.T) {
	for _, r := range goodReplies() {
		r.Data, r.Names = roomy(r.Data, make([]byte, 300)...), roomy(r.Names, "x", "y")
		kept, want := wide(r.Data, r.Names), replyBytes(r)
		first, _ := msg.Answer(r)
		second, _ := msg.Answer(r)
		scribble(first, nil)
		if now := wide(r.Data, r.Names); now != kept || !bytes.Equal(second, want) {
			t.Fatalf("what Answer(%s) answers is shared", kept)
		}
		scribble(r.Data, r.Names)
		if !bytes.Equal(second, want) {
			t.Fatalf("what Answer(%s) was given is kept", kept)
		}
	}
}

func TestRequestsOfBytesAreNew(t *testing.T) {
	for _, r := range goodRequests() {
		b := roomy(asBytes(r), make([]byte, 300)...)
		kept := wide(b, nil)
		first, _ := msg.Asked(b)
		second, _ := msg.Asked(b)
		scribble(first.Data, nil)
		if wide(b, nil) != kept || !sameRequest(second, r) {
			t.Fatalf("what Asked(%s) answers is shared", kept)
		}
		scribble(b, nil)
		if !sameRequest(second, r) {
			t.Fatalf("what Asked(%s) was given is kept", kept)
		}
	}
}

func TestRepliesOfBytesAreNew(t *testing.T) {
	for _, r := range goodReplies() {
		b := roomy(replyBytes(r), make([]byte, 300)...)
		kept := wide(b, nil)
		first, _ := msg.Answered(b)
		second, _ := msg.Answered(b)
		scribble(first.Data, first.Names)
		if wide(b, nil) != kept || !sameReply(second, r) {
			t.Fatalf("what Answered(%s) answers is shared", kept)
		}
		scribble(b, nil)
		if !sameReply(second, r) {
			t.Fatalf("what Answered(%s) was given is kept", kept)
		}
	}
}

// told: all that is told of requests, of replies, and of bytes.
func told() []string {
	var l []string
	for _, r := range append(goodRequests(), badRequests()...) {
		b, e := msg.Ask(r)
		l = append(l, fmt.Sprintln(b, e))
	}
	for _, r := range append(goodReplies(), badReplies()...) {
		b, e := msg.Answer(r)
		l = append(l, fmt.Sprintln(b, e))
	}
	for _, b := range someBytes() {
		r, e := msg.Asked(b)
		s, f := msg.Answered(b)
		l = append(l, fmt.Sprintf("%q %d %q %d", fmt.Sprint(r), e, fmt.Sprint(s), f))
	}
	return l
}

func TestAnswersHangOnArgumentsAlone(t *testing.T) {
	first := told()
	var hands sync.WaitGroup
	for range 4 {
		hands.Go(func() {
			if !slices.Equal(told(), first) {
				t.Error("another answer")
			}
		})
	}
	hands.Wait()
	if !slices.Equal(told(), first) {
		t.Error("another answer")
	}
}

// TestCallsEnd: at bytes, numbers and texts of all kinds none of the calls panics.
func TestCallsEnd(t *testing.T) {
	for seed := range 20000 {
		b := chance(seed%60, seed)
		msg.Answered(b)
		msg.Asked(b)
		if len(b) > 0 {
			b[0] %= lastKind + 1
			msg.Asked(b)
		}
		n := noNumbers(four)
		at := func(i int) int { return n[(seed+i*7)%len(n)] }
		msg.Ask(api.Request{Kind: seed % (lastKind + 2), Mark: at(1), Path: string(b), To: string(b), How: at(2), Handle: at(3), At: at(4), Count: at(5), Data: b})
		msg.Answer(api.Reply{Mark: at(1), Code: api.Errno(at(2)), Handle: at(3), Kind: at(4), Size: at(5), Data: b, Names: []string{string(b), ""}})
	}
}
