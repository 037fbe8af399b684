package tree_test

import (
	"fmt"
	"slices"
	"sync"
	"testing"

	"packthread/api"
	"packthread/tree"
)

// What holds everywhere.

// lists: acts of all kinds, some of which are refused.
func lists() [][]api.Act {
	twice := acts(world())
	twice = append(twice, probes()...)
	out := [][]api.Act{
		nil, {}, {list("/")}, {list("/"), list("/"), mkdir("/a"), list("/"), list("/")}, slices.Repeat([]api.Act{mkdir("/a")}, events+1),
		{create("/f"), put("/f", 0, "abc"), all("/f"), put("/f", 0, "ABC"), all("/f"), all("/f"), get("/f", 1, 1), put("/f", 2, "xyz"), all("/f"), cut("/f", 2), all("/f"), put("/f", 3, "w"), all("/f"), cut("/f", 0), all("/f"), get("/f", 9, 9), get("/f", -1, 0)},
		append(twice, acts(filled(20))...),
	}
	for n := range 40 {
		l, _ := mixed(150, dice(uint32(n+900)))
		out = append(out, l)
	}
	return out
}

// roomy: the same acts, with spare room behind the list, and behind each list in it.
func roomy(l []api.Act) []api.Act {
	out := make([]api.Act, 0, len(l)+5)
	for _, a := range l {
		a.Data = append(slices.Clone(a.Data), text(most+100)...)[:len(a.Data)]
		out = append(out, a)
	}
	copy(out[len(out):cap(out)], []api.Act{{Kind: 77, At: 78}, {Kind: kindMkdir, Path: "/spare"}, {Data: []byte("spare"), To: "/x"}})
	return out
}

// whole: all that stands in acts, in spare room, too.
func whole(l []api.Act) string {
	var s []byte
	for _, a := range l[:cap(l)] {
		s = fmt.Appendf(s, "%d %q %q %d %d %x %d\n", a.Kind, a.Path, a.To, a.At, a.Count, a.Data[:cap(a.Data)], len(a.Data))
	}
	return string(s)
}

// answers: what these acts come to, as one text.
func answers(l []api.Act) string { return shows(tree.Play(l)) }

func TestWhatIsHandedInIsNotChanged(t *testing.T) {
	for _, l := range lists() {
		l = roomy(l)
		before := whole(l)
		tree.Play(l)
		if whole(l) != before {
			t.Fatalf("%s: changed", sketches(l))
		}
	}
}

// TestBytesThatArePutAreNotKept: also when a file that has them is put to, cut, or made longer, and when others have them too.
func TestBytesThatArePutAreNotKept(t *testing.T) {
	b := []byte("abcdefghijklmnop")
	given := b[2:6:12]
	l := []api.Act{create("/f"), create("/g"), {Kind: kindPut, Path: "/f", Data: given}, {Kind: kindPut, Path: "/g", Data: given}, put("/f", 1, "X"), put("/f", 4, "YZ"), all("/f"), all("/g"), cut("/g", 2), cut("/g", 9), all("/g"), {Kind: kindPut, Path: "/f", At: 2, Data: given}, {Kind: kindPut, Path: "/f", At: 3, Data: given[1:3]}, all("/f"), {Kind: kindPut, Path: "/g", Data: given}, all("/g")}
	want := []api.Seen{done, done, sized(4), sized(4), sized(4), sized(6), data("cXefYZ"), data("cdef"), sized(2), sized(9), data("cd\x00\x00\x00\x00\x00\x00\x00"), sized(6), sized(6), data("cXcdef"), sized(9), data("cdef\x00\x00\x00\x00\x00")}
	isList(t, l, want)
	if string(b) != "abcdefghijklmnop" {
		t.Fatalf("what was handed in is %q", b)
	}
}

// TestWhatWasToldStays: whatever is done to a file, or in a directory, behind a Get or a List of it.
func TestWhatWasToldStays(t *testing.T) {
	l := join(file("/f", "abcdef"), []pair{{all("/f"), data("abcdef")}, {get("/f", 1, 3), data("bcd")}, {put("/f", 0, "UVWXYZ"), sized(6)}, {get("/f", 2, 9), data("WXYZ")}, {cut("/f", 1), sized(1)}, {cut("/f", 6), sized(6)}, {all("/f"), data("U\x00\x00\x00\x00\x00")}, {put("/f", 1, "....."), sized(6)}, {all("/f"), data("U.....")},
		{list("/"), names("f")}, {mkdir("/d"), done}, {list("/"), names("d f")}, {rename("/f", "/c"), done}, {list("/"), names("c d")}, {remove("/d"), done}, {list("/"), names("c")}, {remove("/c"), done}, {list("/"), names("")}})
	isPlay(t, l...)
}

// scrawl: over the lists of one that is told, in spare room, too.
func scrawl(x api.Seen) {
	for i := range x.Data[:cap(x.Data)] {
		x.Data[:cap(x.Data)][i] ^= 0xff
	}
	for i := range x.Names[:cap(x.Names)] {
		x.Names[:cap(x.Names)][i] = "scrawled"
	}
}

func TestWhatComesOutIsNewMemory(t *testing.T) {
	for _, l := range lists() {
		l = roomy(l)
		before := whole(l)
		want := answers(l)
		one, _ := tree.Play(l)
		two, code := tree.Play(l)
		for i := range one {
			scrawl(one[i])
		}
		for i := range one[:cap(one)] {
			one[:cap(one)][i] = api.Seen{Code: 99, Kind: 98, Size: 97}
		}
		if shows(two, code) != want || answers(l) != want || whole(l) != before {
			t.Fatalf("%s: an answer shares memory with another one, or with what was handed in", sketches(l))
		}
	}
}

func TestNoTwoListsOfOneAnswerShareMemory(t *testing.T) {
	one := func(x api.Seen) string { return shows([]api.Seen{x}, ok) }
	for _, l := range lists() {
		want, _ := tree.Play(l)
		for _, back := range []bool{false, true} {
			got, _ := tree.Play(l)
			for k := range got {
				i := k
				if back {
					i = len(got) - 1 - k
				}
				if one(got[i]) != one(want[i]) {
					t.Fatalf("%s: the list of %d shares memory with another one", sketches(l), i)
				}
				scrawl(got[i])
			}
		}
	}
}

func TestWhatIsHandedInIsNotKept(t *testing.T) {
	for _, l := range lists() {
		l = roomy(l)
		want := answers(l)
		got, code := tree.Play(l)
		for i := range l {
			for k := range l[i].Data[:cap(l[i].Data)] {
				l[i].Data[:cap(l[i].Data)][k] ^= 0xff
			}
			l[i] = api.Act{}
		}
		if shows(got, code) != want {
			t.Fatal("an answer changed with what was handed in")
		}
	}
}

func TestAnswersHangOnArgumentsAlone(t *testing.T) {
	all := lists()
	var want []string
	for _, l := range all {
		want = append(want, answers(l))
	}
	for i, l := range slices.Backward(all) {
		if answers(l) != want[i] {
			t.Fatalf("%s: asked again, another answer", sketches(l))
		}
	}
	var hands sync.WaitGroup
	for range 4 {
		hands.Go(func() {
			for i, l := range all {
				if answers(l) != want[i] {
					t.Error("asked at the same time, another answer")
				}
			}
		})
	}
	hands.Wait()
}
