package serve_test

import (
	"fmt"
	"slices"
	"sync"
	"testing"

	"packthread/api"
	"packthread/serve"
)

// What holds everywhere.

// lists: requests of all kinds, some of which are refused.
func lists() [][]api.Request {
	out := [][]api.Request{
		nil, {}, {list("/")}, {list("/"), list("/"), mkdir("/a"), list("/"), list("/")}, slices.Repeat([]api.Request{mkdir("/a")}, events+1),
		{open("/f", both|forNew), write(0, 0, "abc"), all(0), write(0, 0, "ABC"), all(0), all(0), open("/f", both), read(1, 1, 1), write(1, 2, "xyz"), all(0), all(1), open("/f", both|forEmpty), all(0), all(1), write(2, 3, "w"), all(1), read(2, 9, 9), read(2, -1, 1)},
		append(asks(world()), probes(asks(world()))...), asks(full()),
	}
	for n := range 40 {
		l, _ := mixed(150, dice(uint32(n+900)))
		out = append(out, l)
	}
	return out
}

// roomy: the same requests, with spare room behind the list, and behind each list in it.
func roomy(l []api.Request) []api.Request {
	out := make([]api.Request, 0, len(l)+5)
	for _, r := range l {
		r.Data = append(slices.Clone(r.Data), text(most+100)...)[:len(r.Data)]
		out = append(out, r)
	}
	copy(out[len(out):cap(out)], []api.Request{{Kind: 77, At: 78}, {Kind: kindNewDir, Path: "/spare"}, {Data: []byte("spare"), To: "/x", Mark: 5, How: 6, Handle: 7}})
	return out
}

// whole: all that stands in requests, in spare room, too.
func whole(l []api.Request) string {
	var s []byte
	for _, r := range l[:cap(l)] {
		s = fmt.Appendf(s, "%d %d %q %q %d %d %d %d %x %d\n", r.Kind, r.Mark, r.Path, r.To, r.How, r.Handle, r.At, r.Count, r.Data[:cap(r.Data)], len(r.Data))
	}
	return string(s)
}

// answers: the replies to these requests, as one text.
func answers(l []api.Request) string { return shows(serve.Play(l)) }

func TestWhatIsHandedInIsNotChanged(t *testing.T) {
	for _, l := range lists() {
		l = roomy(l)
		before := whole(l)
		serve.Play(l)
		if whole(l) != before {
			t.Fatalf("%s: changed", sketches(l))
		}
	}
}

// TestBytesThatAreWrittenAreNotKept: also when a file that has them is written to, or emptied, and when others have them too.
func TestBytesThatAreWrittenAreNotKept(t *testing.T) {
	b := []byte("abcdefghijklmnop")
	given := b[2:6:12]
	put := func(h, at int, b []byte) api.Request {
		return api.Request{Kind: kindWriteAt, Handle: h, At: at, Data: b}
	}
	l := []pair{
		{open("/f", both|forNew), opened(0)}, {open("/g", both|forNew), opened(1)}, {put(0, 0, given), sized(4)}, {put(1, 0, given), sized(4)},
		{write(0, 1, "X"), sized(4)}, {write(0, 4, "YZ"), sized(6)}, {all(0), data("cXefYZ")}, {all(1), data("cdef")},
		{put(0, 2, given), sized(6)}, {put(0, 3, given[1:3]), sized(6)}, {all(0), data("cXcdef")},
		{open("/g", both|forEmpty), opened(2)}, {write(2, 1, "Q"), sized(2)}, {all(1), data("\x00Q")}, {put(1, 0, given), sized(4)}, {all(2), data("cdef")},
	}
	isList(t, asks(l), wants(l))
	if string(b) != "abcdefghijklmnop" {
		t.Fatalf("what was handed in is %q", b)
	}
}

// TestWhatWasToldStays: whatever is done to a file, or in a directory, behind a ReadAt or a Names of it.
func TestWhatWasToldStays(t *testing.T) {
	isPlay(t, with(file("/f", 0, "abcdef"), []pair{{open("/f", both), opened(8)}, {all(8), data("abcdef")}, {read(8, 1, 3), data("bcd")}, {write(8, 0, "UVWXYZ"), sized(6)}, {read(8, 2, 9), data("WXYZ")}, {open("/f", both|forEmpty), opened(1)}, {write(8, 6, ""), sized(6)}, {all(8), data("\x00\x00\x00\x00\x00\x00")}, {write(8, 1, "....."), sized(6)}, {all(1), data("\x00.....")},
		{list("/"), names("f")}, {mkdir("/d"), done}, {list("/"), names("d f")}, {move("/f", "/c"), done}, {list("/"), names("c d")}, {remove("/d"), done}, {list("/"), names("c")}, {remove("/c"), done}, {list("/"), names("")}}...)...)
}

// scrawl: over the lists of one reply, in spare room, too.
func scrawl(x api.Reply) {
	for i := range x.Data[:cap(x.Data)] {
		x.Data[:cap(x.Data)][i] ^= 0xff
	}
	for i := range x.Names[:cap(x.Names)] {
		x.Names[:cap(x.Names)][i] = "scrawled"
	}
}

func TestWhatComesOutIsNewMemory(t *testing.T) {
	for _, l := range lists() {
		l = roomy(l)
		before := whole(l)
		want := answers(l)
		one, _ := serve.Play(l)
		two, code := serve.Play(l)
		for i := range one {
			scrawl(one[i])
		}
		for i := range one[:cap(one)] {
			one[:cap(one)][i] = api.Reply{Mark: 96, Code: 99, Kind: 98, Size: 97}
		}
		if shows(two, code) != want || answers(l) != want || whole(l) != before {
			t.Fatalf("%s: an answer shares memory with another one, or with what was handed in", sketches(l))
		}
	}
}

func TestNoTwoListsOfOneAnswerShareMemory(t *testing.T) {
	one := func(x api.Reply) string { return shows([]api.Reply{x}, ok) }
	for _, l := range lists() {
		want, _ := serve.Play(l)
		for _, back := range []bool{false, true} {
			got, _ := serve.Play(l)
			for k := range got {
				i := k
				if back {
					i = len(got) - 1 - k
				}
				if one(got[i]) != one(want[i]) {
					t.Fatalf("%s: the list of %d shares memory with another one", sketches(l), i)
				}
				scrawl(got[i])
			}
		}
	}
}

func TestWhatIsHandedInIsNotKept(t *testing.T) {
	for _, l := range lists() {
		l = roomy(l)
		want := answers(l)
		got, code := serve.Play(l)
		for i := range l {
			for k := range l[i].Data[:cap(l[i].Data)] {
				l[i].Data[:cap(l[i].Data)][k] ^= 0xff
			}
			l[i] = api.Request{}
		}
		if shows(got, code) != want {
			t.Fatal("an answer changed with what was handed in")
		}
	}
}

func TestAnswersHangOnArgumentsAlone(t *testing.T) {
	all := lists()
	var want []string
	for _, l := range all {
		want = append(want, answers(l))
	}
	for i, l := range slices.Backward(all) {
		if answers(l) != want[i] {
			t.Fatalf("%s: asked again, another answer", sketches(l))
		}
	}
	var hands sync.WaitGroup
	for range 4 {
		hands.Go(func() {
			for i, l := range all {
				if answers(l) != want[i] {
					t.Error("asked at the same time, another answer")
				}
			}
		})
	}
	hands.Wait()
}
