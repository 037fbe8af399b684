package tree_test

import (
	"fmt"
	"slices"
	"strings"
	"testing"

	"packthread/api"
)

// P12.3: acts that make a node.

func TestWhatIsMade(t *testing.T) {
	isPlay(t, pair{mkdir("/n"), done}, pair{stat("/n"), aDir(0)}, pair{list("/n"), names("")}, pair{get("/n", 0, 1), refused(errDir)}, pair{list("/"), names("n")}, pair{stat("/"), aDir(1)})
	isPlay(t, pair{create("/n"), done}, pair{stat("/n"), aFile(0)}, pair{all("/n"), data("")}, pair{list("/n"), refused(errNotDir)}, pair{list("/"), names("n")}, pair{stat("/"), aDir(1)})
	isPlay(t, pair{link("/n", "m"), done}, pair{stat("/n"), refused(errNone)}, pair{list("/"), names("n")}, pair{stat("/"), aDir(1)}, pair{create("/m"), done}, pair{stat("/n"), aFile(0)})
	isPlay(t, join(made(mkdir("/a"), mkdir("/a/a"), mkdir("/a/a/a"), create("/a/a/a/a"), link("/a/a/a/b", "a")), []pair{{put("/a/a/a/b", 0, "x"), sized(1)}, {all("/a/a/a/a"), data("x")}, {list("/a/a"), names("a")}, {list("/a/a/a"), names("a b")}})...)
	for _, p := range []string{"n", "./n", "//n//", "/n/.", "../n", "/nobody/../n", "/n/../n"} {
		for _, a := range []api.Act{mkdir(p), create(p), link(p, "/")} {
			isPlay(t, pair{a, done}, pair{list("/"), names("n")}, pair{a, refused(errTwice)}, pair{remove("/n"), done}, pair{a, done})
		}
	}
}

func TestMakeWhereSomethingIs(t *testing.T) {
	l := world()
	for _, p := range strings.Fields("/d /e /f /lf /ld /ln /lo /lr /lx /lb /d/e /d/f /ld/f /lr/f") {
		for _, a := range []api.Act{mkdir(p), create(p), link(p, "f"), rename("/e", p), rename("/d/f", p), rename("/ln", p)} {
			isPlay(t, with(l, pair{a, refused(errTwice)}, pair{list("/"), names(worldNames)}, pair{list("/d"), names("e f")}, pair{stat("/d/e"), aDir(0)}, pair{all("/d/f"), data("mid")}, pair{all("/lf"), data("abcde")})...)
		}
	}
	isPlay(t, with(l, pair{remove("/ln"), done}, pair{mkdir("/ln"), done}, pair{stat("/ln"), aDir(0)}, pair{remove("/f"), done}, pair{create("/f"), done}, pair{all("/lf"), data("")})...) // a new file has none of the bytes
}

func TestMakeWhereNoDirectoryIs(t *testing.T) {
	l := world()
	for _, a := range []api.Act{mkdir("/f/n"), create("/f/n"), link("/f/n", "f"), mkdir("/lf/n"), create("/d/f/n"), link("/ld/f/n", "f"), mkdir("/f/n/n"), rename("/e", "/f/n"), rename("/e", "/lf/n"), rename("/f", "/f/n"), rename("/e", "/d/f/n/n")} {
		isPlay(t, with(l, pair{a, refused(errNotDir)}, pair{stat("/f"), aFile(5)}, pair{list("/"), names(worldNames)})...)
	}
	for _, a := range []api.Act{mkdir("/n/n"), create("/n/n"), link("/n/n", "f"), mkdir("/ln/n"), create("/d/n/n"), rename("/f", "/n/n"), rename("/f", "/ln/n"), rename("/f", "/ld/n/n")} {
		isPlay(t, with(l, pair{a, refused(errNone)}, pair{list("/"), names(worldNames)}, pair{list("/d"), names("e f")})...)
	}
}

// filled: with so many nodes, the root too; of all kinds, in two directories.
func filled(n int) []pair {
	l := made(mkdir("/d"))
	for i := range n - 2 {
		p := fmt.Sprintf("/n%d", i)
		if i%2 == 0 {
			p = "/d" + p
		}
		l = append(l, made([]api.Act{create(p), mkdir(p), link(p, "/nobody")}[i%3])...)
	}
	return l
}

func TestAsManyNodesAsMayBe(t *testing.T) {
	for _, a := range []api.Act{mkdir("/x"), create("/x"), link("/x", "y"), create("/d/x"), mkdir("/d/x")} {
		isPlay(t, with(filled(nodes-1), pair{a, done}, pair{remove(a.Path), done}, pair{a, done}, pair{create("/y"), refused(errFull)})...)
		l := with(filled(nodes), pair{a, refused(errFull)}, pair{a, refused(errFull)}, pair{stat(a.Path), refused(errNone)})
		isPlay(t, l...)
		for _, p := range strings.Fields("/d/n0 /n1 /d/n2 /n3 /d/n4 /n5") { // a file, a directory, a link, ..
			isPlay(t, with(l, pair{remove(p), done}, pair{a, done}, pair{mkdir("/y"), refused(errFull)}, pair{create("/d/y"), refused(errFull)}, pair{link("/y", "y"), refused(errFull)})...)
		}
		isPlay(t, with(l, pair{remove("/n1"), done}, pair{remove("/d/n0"), done}, pair{a, done}, pair{mkdir("/y"), done}, pair{create("/z"), refused(errFull)})...)
		isPlay(t, with(l, pair{remove("/nobody"), refused(errNone)}, pair{remove("/d"), refused(errNotEmpty)}, pair{remove("/"), refused(errDir)}, pair{a, refused(errFull)})...)
	}
	isPlay(t, with(filled(nodes), pair{rename("/n1", "/x"), done}, pair{rename("/d", "/x/d"), done}, pair{put("/x/d/n0", 0, "ab"), sized(2)}, pair{create("/y"), refused(errFull)}, pair{stat("/x"), aDir(1)})...) // what is renamed is no new node
	isPlay(t, with(filled(nodes), pair{create("/n1"), refused(errTwice)}, pair{mkdir("/"), refused(errTwice)}, pair{mkdir("/d/n0/x"), refused(errNotDir)}, pair{mkdir("/x/y"), refused(errNone)}, pair{link("/n1", ""), refused(errSize)}, pair{link("/x", ""), refused(errSize)}, pair{mkdir("/\x00"), refused(errForm)})...)
}

func TestManyNodesOneBehindAnother(t *testing.T) {
	var l []pair
	for range events / 4 { // more in all than there may be at a time
		l = append(l, pair{mkdir("/x"), done}, pair{create("/x/y"), done}, pair{remove("/x/y"), done}, pair{remove("/x"), done})
	}
	isList(t, acts(l), wants(l))
	l = nil
	for i := range nodes - 1 {
		l = append(l, made(create(fmt.Sprint("/n", i)))...)
	}
	for i := range nodes * 2 {
		n := fmt.Sprint("/n", i)
		l = append(l, pair{create("/more"), refused(errFull)}, pair{remove(n), done}, pair{create(fmt.Sprint("/n", i+nodes-1)), done})
	}
	isList(t, acts(l), wants(l))
}

func TestLinksOfEachLength(t *testing.T) {
	isPlay(t, pair{link("/l", ""), refused(errSize)}, pair{stat("/l"), refused(errNone)}, pair{list("/"), names("")}, pair{link("/l", "/"), done})
	for n := 1; n < 2*long; n++ {
		for _, to := range []string{strings.Repeat("/", n), strings.Repeat("/", n-1) + "f", strings.Repeat("x", n), strings.Repeat("\x00", n)} {
			if n > long {
				isPlay(t, pair{create("/f"), done}, pair{link("/l", to), refused(errSize)}, pair{stat("/l"), refused(errNone)}, pair{list("/"), names("f")})
				continue
			}
			isPlay(t, pair{create("/f"), done}, pair{link("/l", to), done}, pair{link("/l", to), refused(errTwice)}, pair{list("/"), names("f l")})
		}
		if n <= long {
			isPlay(t, with(file("/f", "x"), pair{link("/l", strings.Repeat("/", n)), done}, pair{list("/l"), names("f l")}, pair{link("/k", strings.Repeat("/", n-1)+"f"), done}, pair{all("/k"), data("x")})...)
		}
	}
	for _, n := range []int{512, 4096, 65536, 65537, 65536 + long, 1<<20 + 3} {
		for _, s := range []string{"/", "a", "\x00", "a/", "../"} {
			isPlay(t, pair{link("/l", strings.Repeat(s, n/len(s)+1)), refused(errSize)}, pair{list("/"), names("")})
		}
	}
}

func TestWhichErrorOfAnActThatMakesIsToldFirst(t *testing.T) {
	tooLong := strings.Repeat("x", long+1)
	for _, to := range []string{"", tooLong} { // of Link ahead of all else
		for p := range noPaths() {
			isPlay(t, pair{link(p, to), refused(errSize)})
		}
		for _, p := range strings.Fields("/ /f /n /f/n /n/n /lo/n /lf /d/e/..") {
			isPlay(t, with(world(), pair{link(p, to), refused(errSize)}, pair{list("/"), names(worldNames)})...)
		}
	}
	full := filled(nodes)
	for p, code := range noPaths() {
		for _, a := range []api.Act{mkdir(p), create(p), link(p, "x"), link(p, "\x00")} {
			isPlay(t, pair{a, refused(code)})
			isPlay(t, with(full, pair{a, refused(code)})...)
		}
	}
	for _, a := range []api.Act{mkdir("/"), create(""), link("/..", "x"), mkdir("/d/.."), create("/nobody/..")} {
		isPlay(t, with(full, pair{a, refused(errTwice)})...)
	}
}

// P12.3: bytes of files.

// laid: bytes with others from a place on, and zeros between.
func laid(old string, at int, s string) string {
	b := make([]byte, max(len(old), at+len(s)))
	copy(b, old)
	copy(b[at:], s)
	return string(b)
}

// text: n bytes, of which one does not look as the next ones.
func text(n int) string {
	b := make([]byte, n)
	for i := range b {
		b[i] = byte(i*37 + i>>8*11 + 3)
	}
	return string(b)
}

func TestPut(t *testing.T) {
	for _, old := range []string{"", "a", "abc", text(9), text(100)} {
		for _, s := range []string{"", "X", "XY", "\x00", "\x00Z\x00", text(9), text(50)} {
			for at := range len(old) + 12 {
				want := laid(old, at, s)
				isPlay(t, with(file("/f", old), pair{put("/f", at, s), sized(len(want))}, pair{all("/f"), data(want)}, pair{stat("/f"), aFile(len(want))}, pair{put("/f", at, s), sized(len(want))}, pair{all("/f"), data(want)})...)
			}
		}
	}
}

func TestPutsOneBehindAnother(t *testing.T) {
	isPlay(t, with(made(create("/f")), pair{put("/f", 3, "d"), sized(4)}, pair{put("/f", 0, "a"), sized(4)}, pair{all("/f"), data("a\x00\x00d")}, pair{put("/f", 1, "bc"), sized(4)}, pair{all("/f"), data("abcd")}, pair{put("/f", 2, "CDE"), sized(5)}, pair{put("/f", 5, "fg"), sized(7)}, pair{all("/f"), data("abCDEfg")}, pair{put("/f", 9, ""), sized(9)}, pair{all("/f"), data("abCDEfg\x00\x00")})...)
	isPlay(t, join(file("/f", "one"), file("/g", "two"), made(mkdir("/d")), file("/d/f", "three"), []pair{{put("/g", 1, "W"), sized(3)}, {all("/f"), data("one")}, {all("/g"), data("tWo")}, {all("/d/f"), data("three")}})...)
}

func TestPutUpToTheEndAndBeyond(t *testing.T) {
	for _, n := range []int{0, 1, 2, 7, 1000, most - 1, most} {
		old := text(n)
		for _, size := range []int{0, 1, 2, 1024, most - 1, most, most + 1, most + 2, 2 * most, 65536, 1<<20 + 1} {
			for _, at := range []int{0, 1, 2, 1023, 1024, 1025, most - 2, most - 1, most} {
				s := text(size)
				if at+size > most {
					isPlay(t, with(file("/f", old), pair{put("/f", at, s), refused(errOver)}, pair{all("/f"), data(old)}, pair{stat("/f"), aFile(n)})...)
					continue
				}
				want := laid(old, at, s)
				isPlay(t, with(file("/f", old), pair{put("/f", at, s), sized(len(want))}, pair{all("/f"), data(want)})...)
			}
		}
	}
}

func TestPutAtNoPlace(t *testing.T) {
	for _, at := range far() {
		for _, s := range []string{"", "x", text(most), text(most + 1), text(1 << 17)} {
			isPlay(t, with(file("/f", "abc"), pair{put("/f", at, s), refused(errRange)}, pair{all("/f"), data("abc")})...)
			isPlay(t, pair{put("/", at, s), refused(errDir)}, pair{put("/f", at, s), refused(errNone)}, pair{put("/\x00", at, s), refused(errForm)})
		}
	}
	isPlay(t, pair{put("/", 0, text(most+1)), refused(errDir)}, pair{put("/f", 0, text(most+1)), refused(errNone)}, pair{mkdir("/d"), done}, pair{put("/d", most, "x"), refused(errDir)}, pair{put("/d", -1, ""), refused(errDir)})
}

func TestGet(t *testing.T) {
	for _, n := range []int{0, 1, 2, 10, 33} {
		s := text(n)
		for at := range n + 5 {
			for count := range n + 7 {
				want := s[min(at, n):min(at+count, n)]
				isPlay(t, with(file("/f", s), pair{get("/f", at, count), data(want)}, pair{get("/f", at, count), data(want)}, pair{all("/f"), data(s)})...)
			}
		}
	}
	s := text(most)
	for _, at := range []int{0, 1, 1000, most - 1, most} {
		for _, count := range []int{0, 1, 2, 999, most - 1, most} {
			for _, n := range []int{0, 1, 5, most - 1, most} {
				isPlay(t, with(file("/f", s[:n]), pair{get("/f", at, count), data(s[min(at, n):min(at+count, n)])})...)
			}
		}
	}
}

func TestGetOfNoPlacesOrCounts(t *testing.T) {
	for _, bad := range far() {
		for _, good := range []int{0, 1, 3, 4, most} {
			isPlay(t, with(file("/f", "abc"), pair{get("/f", bad, good), refused(errRange)}, pair{get("/f", good, bad), refused(errRange)}, pair{get("/f", bad, bad), refused(errRange)}, pair{get("/f", bad, -bad), refused(errRange)}, pair{all("/f"), data("abc")})...)
		}
		isPlay(t, pair{get("/", bad, bad), refused(errDir)}, pair{get("/f", bad, 1), refused(errNone)}, pair{get("/f", 1, bad), refused(errNone)}, pair{get("\x00", bad, bad), refused(errForm)})
	}
}

func TestCut(t *testing.T) {
	for _, n := range []int{0, 1, 2, 9, 100, most - 1, most} {
		old := text(n)
		for _, count := range []int{0, 1, 2, 3, 8, 9, 10, 11, 99, 100, 101, 1000, most - 2, most - 1, most} {
			want := laid(old[:min(n, count)], count, "")
			isPlay(t, with(file("/f", old), pair{cut("/f", count), sized(count)}, pair{all("/f"), data(want)}, pair{stat("/f"), aFile(count)}, pair{cut("/f", count), sized(count)}, pair{all("/f"), data(want)})...)
		}
	}
	for _, count := range far() {
		isPlay(t, with(file("/f", "abc"), pair{cut("/f", count), refused(errRange)}, pair{all("/f"), data("abc")}, pair{cut("/", count), refused(errDir)}, pair{cut("/g", count), refused(errNone)}, pair{cut("/f/", count), refused(errRange)}, pair{cut("/f/x", count), refused(errNotDir)})...)
	}
}

func TestWhatIsCutOffDoesNotComeBack(t *testing.T) {
	for n := range 8 {
		s := "abcdefgh"
		l := with(file("/f", s), pair{cut("/f", n), sized(n)})
		isPlay(t, with(l, pair{cut("/f", 8), sized(8)}, pair{all("/f"), data(laid(s[:n], 8, ""))})...)
		for at := n; at < 12; at++ {
			isPlay(t, with(l, pair{put("/f", at, "X"), sized(at + 1)}, pair{all("/f"), data(laid(s[:n], at, "X"))})...)
			isPlay(t, with(l, pair{put("/f", at, ""), sized(at)}, pair{all("/f"), data(laid(s[:n], at, ""))}, pair{cut("/f", 12), sized(12)}, pair{all("/f"), data(laid(s[:n], 12, ""))})...)
		}
	}
	isPlay(t, with(file("/f", text(most)), pair{cut("/f", 1), sized(1)}, pair{put("/f", most, ""), sized(most)}, pair{all("/f"), data(laid(text(1), most, ""))})...)
}

// P12.3: Stat and List.

func TestStatAndListOfManyNames(t *testing.T) {
	kinds := []func(p string) api.Act{mkdir, create, func(p string) api.Act { return link(p, "x") }}
	for _, step := range []int{1, 7, 16, 38} { // made in several orders
		for _, d := range []string{"", "/d"} {
			l := made(mkdir("/d"))
			var there []string
			if d == "" {
				there = []string{"d"}
			}
			for i := range nodes - 2 {
				name := fmt.Sprintf("%c%d", "zaMZ.-~_"[i%8], i*step%(nodes-1))
				l = append(l, made(kinds[i%3](d+"/"+name))...)
				there = append(there, name)
				slices.Sort(there)
				l = append(l, pair{list(d), api.Seen{Names: slices.Clone(there)}}, pair{stat(d), aDir(len(there))})
			}
			isList(t, acts(l), wants(l))
			for i := range nodes - 2 {
				name := there[i*step%len(there)]
				if name == "d" {
					continue
				}
				l = append(l, pair{remove(d + "/" + name), done})
				there = slices.DeleteFunc(there, func(s string) bool { return s == name })
				l = append(l, pair{list(d), api.Seen{Names: slices.Clone(there)}}, pair{stat(d), aDir(len(there))})
			}
			isList(t, acts(l), wants(l))
		}
	}
}

func TestNamesAscendByTheirBytes(t *testing.T) {
	sorted := []string{"\x01", "\t", "\n", " ", "  ", " a", "!", "-", "...", "..a", ".a", "0", "00", "1", "10", "2", "9", "A", "AA", "B", "Z", "_", "a", "a ", "aA", "aa", "aaa", "aaaaaaaaaaaaaaaa", "ab", "b", "z", "zz", "~", "\x7f", "\x80", "\xc3", "ä", "\xf0\x9f\xa7\xb5", "\xff"}
	if len(sorted) != nodes-1 || !slices.IsSorted(sorted) {
		t.Fatal(len(sorted), slices.IsSorted(sorted))
	}
	for step := 1; step < len(sorted); step++ {
		if step%3 == 0 || step%13 == 0 { // no turn through all 39
			continue
		}
		var l []pair
		for i := range sorted {
			l = append(l, made(create("/"+sorted[i*step%len(sorted)]))...)
		}
		l = append(l, pair{list("/"), api.Seen{Names: sorted}}, pair{stat("/"), aDir(nodes - 1)})
		isList(t, acts(l), wants(l))
	}
}

// P12.3: Remove.

func TestRemove(t *testing.T) {
	l := world()
	for p, left := range map[string]string{"/e": "d f lb ld le lf ln lo lr lx", "/f": "d e lb ld le lf ln lo lr lx", "/lf": "d e f lb ld le ln lo lr lx", "/ld": "d e f lb le lf ln lo lr lx", "/le/../le": "d e f lb ld lf ln lo lr lx", "ln": "d e f lb ld le lf lo lr lx", "/lo/": "d e f lb ld le lf ln lr lx", "/lr": "d e f lb ld le lf ln lo lx", "/lr/lx": "d e f lb ld le lf ln lo lr", "/lr/lr/lb": "d e f ld le lf ln lo lr lx", "/lr/e": "d f lb ld le lf ln lo lr lx"} {
		isPlay(t, with(l, pair{remove(p), done}, pair{remove(p), refused(errNone)}, pair{list("/"), names(left)}, pair{stat("/"), aDir(10)}, pair{list("/d"), names("e f")})...)
	}
	// the link goes, not what it leads to
	isPlay(t, with(l, pair{remove("/lf"), done}, pair{all("/f"), data("abcde")}, pair{remove("/ld"), done}, pair{list("/d"), names("e f")}, pair{remove("/le"), done}, pair{stat("/e"), aDir(0)}, pair{remove("/lr"), done}, pair{list("/"), names("d e f lb ln lo lx")})...)
	// what it leads to goes, not the link
	isPlay(t, with(l, pair{remove("/f"), done}, pair{stat("/lf"), refused(errNone)}, pair{create("/f"), done}, pair{stat("/lf"), aFile(0)})...)
	for _, p := range []string{"/d", "/lr/d", "d/", "/e/../d", "/d/e/.."} {
		isPlay(t, with(l, pair{remove(p), refused(errNotEmpty)}, pair{remove("/d/e"), done}, pair{remove(p), refused(errNotEmpty)}, pair{list("/d"), names("f")}, pair{remove("/ld/f"), done}, pair{list("/d"), names("")}, pair{remove(p), done}, pair{stat("/d"), refused(errNone)}, pair{stat("/ld"), refused(errNone)})...)
	}
	for _, a := range []api.Act{mkdir("/d/x"), create("/d/x"), link("/d/x", "nobody")} {
		isPlay(t, with(made(mkdir("/d"), a), pair{remove("/d"), refused(errNotEmpty)}, pair{remove("/d/x"), done}, pair{remove("/d"), done}, pair{list("/"), names("")})...)
	}
	isPlay(t, pair{mkdir("/a"), done}, pair{mkdir("/a/b"), done}, pair{remove("/a"), refused(errNotEmpty)}, pair{remove("/"), refused(errDir)}, pair{remove("/a/b"), done}, pair{remove("/a"), done}, pair{remove("/"), refused(errDir)}, pair{list("/"), names("")})
}

// P12.3: Rename.

// spots: paths of that world where nothing stands yet.
func spots() []string {
	return []string{"/n", "n/", "//./n", "/d/n", "/d/e/n", "/e/n", "/ld/n", "/le/n", "/lr/n", "/ld/e/n", "/lr/lr/ld/n", "/nobody/../e/n"}
}

func TestRenameOfAFile(t *testing.T) {
	for _, to := range spots() {
		isPlay(t, with(world(), pair{rename("/f", to), done}, pair{stat("/f"), refused(errNone)}, pair{all(to), data("abcde")}, pair{stat("/lf"), refused(errNone)}, pair{put(to, 5, "f"), sized(6)}, pair{rename(to, "/f"), done}, pair{stat(to), refused(errNone)}, pair{all("/lf"), data("abcdef")}, pair{list("/"), names(worldNames)}, pair{list("/d"), names("e f")}, pair{list("/e"), names("")})...)
		isPlay(t, with(world(), pair{rename("/ld/f", to), done}, pair{stat("/d/f"), refused(errNone)}, pair{all(to), data("mid")}, pair{rename(to, "/ld/f"), done}, pair{all("/d/f"), data("mid")}, pair{stat(to), refused(errNone)})...)
	}
}

func TestRenameOfADirectory(t *testing.T) {
	for _, to := range []string{"/n", "n/", "/e/n", "/le/n", "/lr/n", "/lr/e/n"} {
		isPlay(t, with(world(), pair{rename("/d", to), done}, pair{stat("/d"), refused(errNone)}, pair{stat("/ld"), refused(errNone)}, pair{list(to), names("e f")}, pair{all(to + "/f"), data("mid")}, pair{put(to+"/f", 3, "dle"), sized(6)}, pair{create(to + "/e/g"), done}, pair{rename(to, "/d"), done}, pair{all("/ld/f"), data("middle")}, pair{list("/d/e"), names("g")}, pair{list("/"), names(worldNames)}, pair{list("/e"), names("")})...)
	}
	for _, to := range []string{"/n", "/d/n", "/ld/n", "/d/e/n", "/ld/e/n", "/lr/d/n"} {
		isPlay(t, with(world(), pair{rename("/e", to), done}, pair{stat("/e"), refused(errNone)}, pair{stat("/le"), refused(errNone)}, pair{stat(to), aDir(0)}, pair{remove(to), done}, pair{mkdir("/e"), done}, pair{list("/d"), names("e f")}, pair{list("/"), names(worldNames)})...)
	}
}

func TestRenameOfALink(t *testing.T) {
	for _, to := range spots() {
		l := join(world(), made(mkdir("/t"), create("/t/x"), link("/k", "/t")))
		isPlay(t, with(l, pair{rename("/k", to), done}, pair{stat("/k"), refused(errNone)}, pair{list(to), names("x")}, pair{stat(to + "/x"), aFile(0)}, pair{rename(to, "/k"), done}, pair{list("/k"), names("x")}, pair{list("/t"), names("x")}, pair{rename("/k/x", to), done}, pair{list("/t"), names("")})...)
		for _, name := range strings.Fields("/ln /lo /lx /lb") { // wherever it leads to
			isPlay(t, with(world(), pair{rename(name, to), done}, pair{rename(name, to), refused(errNone)}, pair{create(to), refused(errTwice)}, pair{rename(to, name), done}, pair{stat(to), refused(errNone)}, pair{list("/"), names(worldNames)})...)
		}
	}
	isPlay(t, with(world(), pair{rename("/lf", "/n"), done}, pair{all("/n"), data("abcde")}, pair{all("/f"), data("abcde")}, pair{stat("/lf"), refused(errNone)}, pair{rename("/n", "/d/n"), done}, pair{all("/d/n"), data("mid")}, pair{rename("/d/n", "/e/n"), done}, pair{stat("/e/n"), refused(errNone)})...)
	isPlay(t, with(world(), pair{rename("/ld", "/ld/n"), done}, pair{list("/d"), names("e f n")}, pair{stat("/ld"), refused(errNone)}, pair{stat("/d/n"), refused(errNone)}, pair{rename("/le", "/lr/le/n"), done}, pair{list("/e/n"), names("n")}, pair{rename("/lr", "/lr/n"), done}, pair{list("/n/e/n"), names("n")})...) // a link is nothing that anything stands within
}

func TestRenameUnderItsOwnName(t *testing.T) {
	for _, p := range strings.Fields("/d /e /f /lf /ld /ln /lo /lr /lx /d/e /d/f") {
		for _, to := range []string{p, p + "/", p[1:], "/lr" + p, "/nobody/.." + p, "/lr/lr/../" + p[1:]} {
			isPlay(t, with(world(), pair{rename(p, to), refused(errTwice)}, pair{rename(to, p), refused(errTwice)}, pair{list("/"), names(worldNames)}, pair{list("/d"), names("e f")})...)
		}
	}
}

func TestRenameWhereTheNameIsTaken(t *testing.T) {
	for _, p := range strings.Fields("/d /e /f /lf /ld /ln /lo /d/e /d/f") {
		for _, to := range strings.Fields("/d /e /f /lf /ld /le /ln /lo /lr /lx /lb /d/e /d/f /ld/f /lr/e") { // of files too, of empty directories, of links to nothing
			isPlay(t, with(world(), pair{rename(p, to), refused(errTwice)}, pair{list("/"), names(worldNames)}, pair{list("/d"), names("e f")}, pair{all("/f"), data("abcde")}, pair{all("/d/f"), data("mid")})...)
		}
	}
}

func TestRenameIntoItself(t *testing.T) {
	l := join(made(mkdir("/a"), mkdir("/a/b"), mkdir("/a/b/c"), mkdir("/ab"), create("/a/f"), link("/l", "a/b"), link("/a/b/c/top", "/"), link("/a/b/up", "..")))
	for _, r := range []struct{ p, to string }{
		{"/a", "/a/n"}, {"/a", "/a/b/n"}, {"/a", "/a/b/c/n"}, {"/a", "/l/n"}, {"/a", "/l/c/n"}, {"/a", "/l/up/n"}, {"/a", "/a/b/c/top/a/n"}, {"/a", "/a/b/up/b/n"},
		{"/a/b", "/a/b/n"}, {"/a/b", "/a/b/c/n"}, {"/a/b", "/l/n"}, {"/a/b", "/l/c/n"}, {"/l/c", "/l/c/n"}, {"/l/c", "/a/b/c/n"}, {"/a/b/c", "/l/c/n"}, {"/l/up/b", "/a/b/c/n"}, {"/ab", "/ab/n"},
	} {
		isPlay(t, with(l, pair{rename(r.p, r.to), refused(errForm)}, pair{list("/"), names("a ab l")}, pair{list("/a"), names("b f")}, pair{list("/a/b"), names("c up")}, pair{list("/a/b/c"), names("top")})...)
	}
	for _, r := range []struct{ p, to string }{{"/a", "/ab/n"}, {"/ab", "/a/n"}, {"/ab", "/a/b/c/n"}, {"/a/b", "/a/n"}, {"/a/b/c", "/a/n"}, {"/a/b/c", "/a/b/n"}, {"/a/b", "/l/up/n"}, {"/a/b/c", "/a/b/c/top/n"}, {"/a", "/a/b/c/top/n"}, {"/a/f", "/a/b/c/n"}, {"/l", "/l/n"}, {"/a/b/up", "/a/b/up/n"}} { // beside it, or out of it
		isPlay(t, with(l, pair{rename(r.p, r.to), done}, pair{rename(r.p, r.to), refused(errNone)})...)
	}
	isPlay(t, with(l, pair{rename("/a", "/a/b"), refused(errTwice)}, pair{rename("/a", "/a/f"), refused(errTwice)}, pair{rename("/a", "/a/f/n"), refused(errNotDir)}, pair{rename("/a", "/a/n/n"), refused(errNone)}, pair{rename("/a", "/a/b/c/top"), refused(errTwice)})...)
	isPlay(t, with(l, pair{rename("/a/b/c", "/c"), done}, pair{rename("/a", "/c/a"), done}, pair{list("/c/a/b"), names("up")}, pair{rename("/c", "/c/a/b/n"), refused(errForm)}, pair{rename("/c", "/c/a/b/up/n"), refused(errForm)}, pair{rename("/ab", "/c/a/b/n"), done})...) // what stood within stands around
}

func TestRenameDeepWithin(t *testing.T) {
	l, p := deepDir(deep - 1)
	for n := 2; n <= len(p); n += 2 {
		isPlay(t, with(l, pair{rename(p[:n], p+"/n"), refused(errForm)}, pair{list(p), names("")}, pair{list("/"), names("a")})...)
	}
}

func TestRenameOfTheRootAndToTheRoot(t *testing.T) {
	root := []string{"/", "", ".", "..", "/d/..", "/nobody/..", "../.."}
	for _, p := range root {
		for _, to := range append([]string{"/n", "/d/n", "/f", "/f/n", "/n/n", "/lo/n", "\x00", strings.Repeat("/", long+1), strings.Repeat("/a", deep+1)}, root...) { // ahead of all that is odd about To
			isPlay(t, with(world(), pair{rename(p, to), refused(errDir)}, pair{list("/"), names(worldNames)})...)
		}
		for _, from := range strings.Fields("/d /e /f /lf /lr /lo") {
			isPlay(t, with(world(), pair{rename(from, p), refused(errTwice)}, pair{list("/"), names(worldNames)})...)
		}
	}
}

func TestWhichErrorOfRenameIsToldFirst(t *testing.T) {
	tos := map[string]api.Errno{"/": errTwice, "": errTwice, "/f/n": errNotDir, "/f/n/n": errNotDir, "/n/n": errNone, "/lo/n": errLoop, "/lx/n": errForm, "/lb/n": errNotDir, "/lf/n": errNotDir, "/ln/n": errNone, "/f": errTwice, "/lo": errTwice, "/d": errTwice, "/d/f": errTwice, "/d/n": errForm, "/ld/e/n": errForm}
	for p, code := range noPaths() {
		tos[p] = code
	}
	froms := map[string]api.Errno{"/": errDir, "/n": errNone, "/n/n": errNone, "/f/n": errNotDir, "/lo/n": errLoop, "/lx/n": errForm, "/ln/n": errNone, "/lb/n": errNotDir, "/lr/n": errNone}
	for p, code := range noPaths() {
		froms[p] = code
	}
	for to, code := range tos {
		isPlay(t, with(world(), pair{rename("/d", to), refused(code)}, pair{list("/"), names(worldNames)}, pair{list("/d"), names("e f")})...)
		for p, first := range froms {
			l := with(world(), pair{rename(p, to), refused(first)}, pair{list("/"), names(worldNames)}, pair{list("/d"), names("e f")})
			isList(t, acts(l), wants(l))
		}
	}
}
