package talk_test

import (
	"fmt"
	"slices"
	"sync"
	"testing"

	"packthread/api"
	"packthread/talk"
)

// What holds everywhere.

// play: what is handed in.
type play struct {
	line  api.Line
	steps []api.Step
}

// plays: with steps of all sorts, some of which are refused.
func plays() []play {
	file := newScript(plain)
	for _, r := range []api.Request{open("/f", both|forNew), write(0, 0, "abcdef"), read(0, 0, 6), write(0, 2, "XY"), read(0, 0, 6), list("/")} {
		file.add(call(r))
	}
	file.round()
	for _, r := range []api.Request{list("/"), list("/"), read(0, 1, 2), mkdir("/g"), list("/"), read(0, 0, 99)} {
		file.add(call(r))
	}
	file.round()
	out := []play{{plain, nil}, {plain, []api.Step{}}, {api.Line{}, []api.Step{work}}, {plain, slices.Repeat([]api.Step{work}, events+1)}, {file.line, file.steps}}
	for n := range 60 {
		s := mixed(200, uint32(n+900))
		out = append(out, play{s.line, s.steps})
	}
	for n := range 30 {
		var fates [6]int
		if s, all := noisy(uint32(n+700), &fates); all {
			out = append(out, play{s.line, s.steps})
		}
	}
	return out
}

// roomy: the same steps, with spare room behind the list, and behind each list in it.
func roomy(p play) play {
	out := make([]api.Step, 0, len(p.steps)+5)
	spare := func(b []byte) []byte { return append(slices.Clone(b), text(chunk+100)...)[:len(b)] }
	for _, s := range p.steps {
		s.Request.Data, s.Hop.Data = spare(s.Request.Data), spare(s.Hop.Data)
		out = append(out, s)
	}
	copy(out[len(out):cap(out)], []api.Step{call(mkdir("/spare")), {Kind: 77}, {Kind: kindWork, Way: 5, Hop: api.Hop{Data: []byte("spare"), Id: 6}}})
	return play{p.line, out}
}

// whole: all that stands in steps, in spare room, too.
func whole(p play) string {
	var s []byte
	for _, x := range p.steps[:cap(p.steps)] {
		r, h := x.Request, x.Hop
		s = fmt.Appendf(s, "%d %d %d %q %q %d %d %d %d %d %x ", x.Kind, r.Kind, r.Mark, r.Path, r.To, r.How, r.Handle, r.At, r.Count, len(r.Data), r.Data[:cap(r.Data)])
		s = fmt.Appendf(s, "%d %d %d %d %d %d %d %x\n", x.Way, h.Kind, h.Id, h.At, h.By, h.Count, len(h.Data), h.Data[:cap(h.Data)])
	}
	return string(s)
}

// answers: what comes of these, as one text.
func answers(p play) string { return shows(talk.Play(p.line, p.steps)) }

func TestWhatIsHandedInIsNotChanged(t *testing.T) {
	for _, p := range plays() {
		p = roomy(p)
		before := whole(p)
		talk.Play(p.line, p.steps)
		if whole(p) != before {
			t.Fatalf("%s: changed", sketches(p.steps))
		}
	}
}

// TestTheSameBytesInTwoRequests: they are not kept by the file that they are written to.
func TestTheSameBytesInTwoRequests(t *testing.T) {
	b := []byte("abcdefghijklmnop")
	put := func(h, at, from, to int) api.Request {
		return api.Request{Kind: kindWriteAt, Handle: h, At: at, Data: b[from:to]}
	}
	s := newScript(plain)
	s.calls(t, open("/f", both|forNew), open("/g", both|forNew), put(0, 0, 2, 6), put(1, 0, 2, 6), put(0, 1, 3, 7), read(1, 0, 9))
	s.round()
	s.calls(t, read(0, 0, 9))
	s.round()
	s.check(t, true)
	if got := replies(s.want); string(got[5].Data) != "cdef" || string(got[6].Data) != "cdefg" || string(b) != "abcdefghijklmnop" {
		t.Fatalf("%v, %q", got, b)
	}
}

// scrawl: over the lists of one answer, in spare room, too.
func scrawl(x api.Talked) {
	for i := range x.Replies {
		scrawlReply(x.Replies[i])
	}
	for i := range x.Replies[:cap(x.Replies)] {
		x.Replies[:cap(x.Replies)][i] = api.Reply{Mark: 96, Code: 99, Kind: 98, Size: 97}
	}
}

func scrawlReply(r api.Reply) {
	for i := range r.Data[:cap(r.Data)] {
		r.Data[:cap(r.Data)][i] ^= 0xff
	}
	for i := range r.Names[:cap(r.Names)] {
		r.Names[:cap(r.Names)][i] = "scrawled"
	}
}

func TestWhatComesOutIsNewMemory(t *testing.T) {
	for _, p := range plays() {
		p = roomy(p)
		before := whole(p)
		want := answers(p)
		one, _ := talk.Play(p.line, p.steps)
		two, code := talk.Play(p.line, p.steps)
		for i := range one {
			scrawl(one[i])
		}
		for i := range one[:cap(one)] {
			one[:cap(one)][i] = api.Talked{Code: 99, Id: 98}
		}
		if shows(two, code) != want || answers(p) != want || whole(p) != before {
			t.Fatalf("%s: an answer shares memory with another one, or with what was handed in", sketches(p.steps))
		}
	}
}

// TestNoTwoListsOfOneAnswerShareMemory: neither two of Replies, nor two in them.
func TestNoTwoListsOfOneAnswerShareMemory(t *testing.T) {
	one := func(x api.Talked) string { return shows([]api.Talked{x}, ok) }
	several := 0
	for _, p := range plays() {
		want, _ := talk.Play(p.line, p.steps)
		for _, back := range []bool{false, true} {
			got, _ := talk.Play(p.line, p.steps)
			for k := range got {
				i := k
				if back {
					i = len(got) - 1 - k
				}
				if one(got[i]) != one(want[i]) {
					t.Fatalf("%s: a list of %d shares memory with another one", sketches(p.steps), i)
				}
				l := slices.Clone(got[i].Replies)
				for k := range l {
					if !sameReply(l[k], want[i].Replies[k]) {
						t.Fatalf("%s: a list of a reply of %d shares memory with another one", sketches(p.steps), i)
					}
					scrawlReply(l[k])
				}
				several += max(0, len(l)-1)
				scrawl(got[i])
			}
		}
	}
	if several < 50 {
		t.Errorf("%d replies behind the first one of a Hear", several)
	}
}

func TestWhatIsHandedInIsNotKept(t *testing.T) {
	for _, p := range plays() {
		p = roomy(p)
		want := answers(p)
		got, code := talk.Play(p.line, p.steps)
		for i, s := range p.steps {
			for _, b := range [][]byte{s.Request.Data, s.Hop.Data} {
				for k := range b[:cap(b)] {
					b[:cap(b)][k] ^= 0xff
				}
			}
			p.steps[i] = api.Step{}
		}
		if shows(got, code) != want {
			t.Fatal("an answer changed with what was handed in")
		}
	}
}

func TestAnswersHangOnArgumentsAlone(t *testing.T) {
	all := plays()
	var want []string
	for _, p := range all {
		want = append(want, answers(p))
	}
	for i, p := range slices.Backward(all) {
		if answers(p) != want[i] {
			t.Fatalf("%s: asked again, another answer", sketches(p.steps))
		}
	}
	var hands sync.WaitGroup
	for range 4 {
		hands.Go(func() {
			for i, p := range all {
				if answers(p) != want[i] {
					t.Error("asked at the same time, another answer")
				}
			}
		})
	}
	hands.Wait()
}
