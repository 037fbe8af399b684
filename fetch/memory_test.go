package fetch_test

import (
	"fmt"
	"slices"
	"sync"
	"testing"

	"packthread/api"
	"packthread/fetch"
)

// What holds everywhere.

// lists: Gots of all sorts, some of which are refused.
func lists() [][]api.Got {
	out := [][]api.Got{
		nil, {}, gots(inOrder(chunks)), {none(0, 100), none(100, 100), none(200, 100)}, slices.Repeat([]api.Got{none(0, 100)}, events+1),
		{bring(0, 100, 100), bring(100, 100, 30), none(130, 70), bring(200, 100, 1), bring(201, 99, 99), none(300, 100), bring(400, 100, 101), bring(400, 100, 100), none(7, 7)},
		{bring(0, 100, 2), bring(2, 98, 2), bring(4, 96, 2), none(6, 94), none(100, 100), none(200, 100)},
	}
	for n := range 60 {
		l, _ := mixed(150, dice(uint32(n+900)))
		out = append(out, l)
	}
	return out
}

// roomy: the same Gots, with spare room behind the list, and behind each list in it.
func roomy(l []api.Got) []api.Got {
	out := make([]api.Got, 0, len(l)+5)
	for _, g := range l {
		g.Data = append(slices.Clone(g.Data), text(most, chunk+100)...)[:len(g.Data)]
		out = append(out, g)
	}
	copy(out[len(out):cap(out)], []api.Got{{At: 100, Count: 100, Data: []byte("spare")}, {Count: 100}, {At: 77, Count: 78}})
	return out
}

// whole: all that stands in Gots, in spare room, too.
func whole(l []api.Got) string {
	var s []byte
	for _, g := range l[:cap(l)] {
		s = fmt.Appendf(s, "%d %d %d %x\n", g.At, g.Count, len(g.Data), g.Data[:cap(g.Data)])
	}
	return string(s)
}

// answers: what comes of these, as one text.
func answers(l []api.Got) string { return shows(fetch.Play(l)) }

func TestWhatIsHandedInIsNotChanged(t *testing.T) {
	for _, l := range lists() {
		l = roomy(l)
		before := whole(l)
		fetch.Play(l)
		if whole(l) != before {
			t.Fatalf("%q: changed", sketches(l))
		}
	}
}

// TestTheSameListTwice: of two wants, or of one that is refused, and one that is not.
func TestTheSameListTwice(t *testing.T) {
	b := text(0, 500)
	part := func(at, count, from, to int) api.Got {
		return api.Got{At: at, Count: count, Data: b[from:to]}
	}
	isPlay(t, pair{part(0, 100, 0, 101), refused(errSize)}, pair{part(0, 100, 0, 100), ask(600, 100)}, pair{part(0, 100, 0, 100), refused(errNone)}, pair{part(200, 100, 200, 250), ask(250, 50)}, pair{none(250, 50), ask()}, pair{part(100, 100, 100, 200), done(250)})
	if !slices.Equal(b, text(0, 500)) {
		t.Fatal("what was handed in is changed")
	}
}

// scrawl: over the lists of one answer, in spare room, too.
func scrawl(x api.Next) {
	for i := range x.Data[:cap(x.Data)] {
		x.Data[:cap(x.Data)][i] ^= 0xff
	}
	for i := range x.Wants[:cap(x.Wants)] {
		x.Wants[:cap(x.Wants)][i] = api.Want{At: 95, Count: 94}
	}
}

func TestWhatComesOutIsNewMemory(t *testing.T) {
	for _, l := range lists() {
		l = roomy(l)
		before := whole(l)
		want := answers(l)
		one, _ := fetch.Play(l)
		two, code := fetch.Play(l)
		for i := range one {
			scrawl(one[i])
		}
		for i := range one[:cap(one)] {
			one[:cap(one)][i] = api.Next{Code: 99, Done: true}
		}
		if shows(two, code) != want || answers(l) != want || whole(l) != before {
			t.Fatalf("%q: an answer shares memory with another one, or with what was handed in", sketches(l))
		}
	}
}

func TestNoTwoListsOfOneAnswerShareMemory(t *testing.T) {
	one := func(x api.Next) string { return shows([]api.Next{x}, ok) }
	for _, l := range lists() {
		want, _ := fetch.Play(l)
		for _, back := range []bool{false, true} {
			got, _ := fetch.Play(l)
			for k := range got {
				i := k
				if back {
					i = len(got) - 1 - k
				}
				if one(got[i]) != one(want[i]) {
					t.Fatalf("%q: the list of %d shares memory with another one", sketches(l), i)
				}
				scrawl(got[i])
			}
		}
	}
}

func TestWhatIsHandedInIsNotKept(t *testing.T) {
	for _, l := range lists() {
		l = roomy(l)
		want := answers(l)
		got, code := fetch.Play(l)
		for i := range l {
			for k := range l[i].Data[:cap(l[i].Data)] {
				l[i].Data[:cap(l[i].Data)][k] ^= 0xff
			}
			l[i] = api.Got{}
		}
		if shows(got, code) != want {
			t.Fatal("an answer changed with what was handed in")
		}
	}
}

func TestAnswersHangOnArgumentsAlone(t *testing.T) {
	all := lists()
	var want []string
	for _, l := range all {
		want = append(want, answers(l))
	}
	for i, l := range slices.Backward(all) {
		if answers(l) != want[i] {
			t.Fatalf("%q: asked again, another answer", sketches(l))
		}
	}
	var hands sync.WaitGroup
	for range 4 {
		hands.Go(func() {
			for i, l := range all {
				if answers(l) != want[i] {
					t.Error("asked at the same time, another answer")
				}
			}
		})
	}
	hands.Wait()
}
