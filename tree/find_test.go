package tree_test

import (
	"fmt"
	"strings"
	"testing"

	"packthread/api"
)

// P12.2: to find a path.

// halls: a directory in a directory, with a file f in each, and one at the root.
func halls() []pair {
	return join(made(mkdir("/a"), mkdir("/a/b")), file("/f", "top"), file("/a/f", "mid"), file("/a/b/f", "deep"))
}

// isFileWith: at a path, with those bytes.
func isFileWith(p, s string) []pair { return []pair{{stat(p), aFile(len(s))}, {all(p), data(s)}} }

// isRefused: what looks a path up, links followed, is refused so.
func isRefused(p string, code api.Errno) []pair {
	return []pair{{stat(p), refused(code)}, {list(p), refused(code)}, {get(p, 0, 9), refused(code)}, {put(p, 0, "x"), refused(code)}, {cut(p, 0), refused(code)}}
}

func TestNamesAreLookedUpFromTheRootOn(t *testing.T) {
	for p, s := range map[string]string{
		"/f": "top", "f": "top", "//f": "top", "/f/": "top", "./f": "top", "../f": "top", "/a/../f": "top", "/nobody/../f": "top", "/f/../f": "top", "/a/b/../../f": "top", "/a/b/../../../f": "top",
		"/a/f": "mid", "a/f": "mid", "/a//f": "mid", "/a/./f/.": "mid", "/a/b/../f": "mid", "/a/b/f/../../f": "mid", "b/../a/f": "mid",
		"/a/b/f": "deep", "a/b/f": "deep", "/a/../a/b/f//": "deep",
	} {
		isPlay(t, join(halls(), isFileWith(p, s))...)
	}
	for p, want := range map[string]string{"/": "a f", "": "a f", "/a": "b f", "a/": "b f", "/a/b": "f", "/a/b/f/..": "f", "/a/..": "a f", "/a/b/..": "b f", "/../a": "b f"} {
		isPlay(t, with(halls(), pair{list(p), names(want)}, pair{stat(p), aDir(len(names(want).Names))})...)
	}
}

func TestNamesThatAreNotThere(t *testing.T) {
	for _, p := range []string{"/b", "/F", "/ff", "/a/a", "/a/b/b", "/b/f", "/b/a/f", "/a/c/f", "/a/b/c/d/e", "/a/b/a/f", "/ f", "/f ", "/a/\xff", "f.", "..f", "..."} {
		isPlay(t, join(halls(), isRefused(p, errNone))...)
	}
	for _, p := range []string{"/f/f", "/f/a", "/f/a/b", "/a/f/f", "/a/f/a/b/c", "/a/b/f/f", "/a/b/f/g/../h", "f/a/b/c/d/e/f/g/h/i/j/k"} {
		isPlay(t, join(halls(), isRefused(p, errNotDir))...)
	}
	for p, code := range noPaths() {
		isPlay(t, join(halls(), isRefused(p, code))...)
	}
}

func TestNamesOfAllBytes(t *testing.T) {
	for v := range 256 {
		name := string([]byte{byte(v)})
		switch name {
		case "\x00":
			isPlay(t, pair{create("/" + name), refused(errForm)}, pair{create("/a" + name), refused(errForm)})
		case ".", "/":
			isPlay(t, pair{create("/" + name), refused(errTwice)})
		default:
			l := join(file("/"+name, "x"+name), file("/a"+name, "y"), made(mkdir("/d"+name), create("/d"+name+"/"+name+name)))
			isPlay(t, with(l, pair{all("/" + name), data("x" + name)}, pair{list("/d" + name), api.Seen{Names: []string{name + name}}}, pair{stat("/" + name + "?" + name), refused(errNone)})...)
		}
	}
	full := strings.Repeat("n", wide)
	isPlay(t, join(file("/"+full, "n"), isFileWith(full, "n"), isRefused(full[1:], errNone), isRefused(full+"n", errForm))...)
}

// led: paths of a link that stands in /a/b, and where it leads: the bytes of a file.
func led() map[string]string {
	return map[string]string{
		"f": "deep", "./f": "deep", "f/": "deep", "f/.": "deep", "../b/f": "deep", "nobody/../f": "deep", "f/../f": "deep", "/a/b/f": "deep", "../../a/b/f": "deep", "../../../a/b/f": "deep",
		"../f": "mid", "./../f": "mid", "../b/../f": "mid", "/a/f": "mid", "/a/b/../f": "mid", "../../a/f": "mid", "../../../../a//f/": "mid",
		"../../f": "top", "/f": "top", "//f": "top", "/./f": "top", "/../f": "top", "/../../f": "top", "../../../f": "top", "../../../../../f": "top", strings.Repeat("../", 65) + "f": "top", "/a/../f": "top", "/a/b/../../f": "top",
	}
}

func TestALinkAsTheLastName(t *testing.T) {
	for to, s := range led() {
		isPlay(t, join(halls(), made(link("/a/b/l", to)), isFileWith("/a/b/l", s), isFileWith("/a/b/l/", s), isFileWith("/a/b/l/../l", s), []pair{{list("/a/b/l"), refused(errNotDir)}, {put("/a/b/l", 0, "new"), sized(len(s))}, {all("/a/b/l"), data("new" + s[3:])}})...)
	}
	for to, want := range map[string]string{
		".": "f l", "./": "f l", "f/..": "f l", "nobody/..": "f l", "../b": "f l", "/a/b": "f l",
		"..": "b f", "../": "b f", "../../a": "b f", "/a": "b f", "../b/..": "b f", "/a/b/f/../..": "b f",
		"/": "a f", "//": "a f", "/.": "a f", "/..": "a f", "../..": "a f", "../../..": "a f", "../../../../..": "a f", "/a/..": "a f", strings.Repeat("/", long): "a f",
	} {
		isPlay(t, join(halls(), made(link("/a/b/l", to)), []pair{{list("/a/b/l"), names(want)}, {stat("/a/b/l"), aDir(len(names(want).Names))}, {all("/a/b/l"), refused(errDir)}})...)
	}
}

// ledOdd: paths of a link that stands in /a/b, and what finding them is refused with.
func ledOdd() map[string]api.Errno {
	return map[string]api.Errno{
		"nobody": errNone, "../nobody": errNone, "/nobody": errNone, "a": errNone, "/b": errNone, "../a": errNone, "f../": errNone, "...": errNone, "nobody/f": errNone,
		"f/f": errNotDir, "../f/b": errNotDir, "/f/a": errNotDir, "/f/l": errNotDir,
		"l": errLoop, "./l": errLoop, "../b/l": errLoop, "/a/b/l": errLoop, "l/..x": errLoop, "l/f": errLoop, "/a/b/l/l": errLoop, "/a/b/l/l/l": errFull,
		"\x00": errForm, "/\x00": errForm, "\x00/..": errForm, "f/\x00": errForm, "/\x00/l": errForm, strings.Repeat("x", wide+1): errForm, strings.Repeat("x", long): errForm, "../../" + strings.Repeat(".", wide+1): errForm,
		strings.Repeat("/x", deep+1): errFull, strings.Repeat("/x", 100): errFull, strings.Repeat("x/", deep-1): errFull, strings.Repeat("x/", deep-1) + "../..": errFull, "../" + strings.Repeat("x/", deep): errFull, strings.Repeat("/x", deep+1) + strings.Repeat("/..", deep+1): errFull,
		strings.Repeat("/x", deep): errNone, strings.Repeat("x/", deep-2): errNone, "../" + strings.Repeat("x/", deep-1): errNone, "../../" + strings.Repeat("x/", deep): errNone,
		strings.Repeat("x/", deep-1) + "\x00": errFull, strings.Repeat("x/", deep-2) + "\x00": errForm, strings.Repeat("x/", deep-2) + "\x00/x": errForm,
	}
}

func TestALinkThatLeadsNowhere(t *testing.T) {
	for to, code := range ledOdd() {
		isPlay(t, join(halls(), made(link("/a/b/l", to)), isRefused("/a/b/l", code), []pair{{create("/a/b/l"), refused(errTwice)}, {list("/a/b"), names("f l")}})...)
		isPlay(t, join(halls(), made(link("/a/b/l", to)), made(rename("/a/b/l", "/a/b/k"), remove("/a/b/k")), []pair{{list("/a/b"), names("f")}})...)
	}
}

func TestALinkOnTheWay(t *testing.T) {
	l := join(halls(), made(link("/ab", "a/b"), link("/a/b/up", ".."), link("/a/b/top", "/"), link("/a/here", "."), link("/a/b/x", "../b/up/here")))
	for p, s := range map[string]string{
		"/ab/f": "deep", "/ab/up/f": "mid", "/ab/up/b/f": "deep", "/a/b/up/f": "mid", "/a/b/top/f": "top", "/ab/top/f": "top", "/ab/top/ab/f": "deep", "/ab/up/here/f": "mid", "/a/here/here/here/b/f": "deep", "/ab/x/f": "mid", "/ab/x/b/f": "deep",
		"/ab/../f": "top", "/ab/f/../../f": "top", "/a/b/up/../f": "deep", "/ab/up/../f": "deep", "/ab/up/../up/f": "mid", // names are taken away ahead of looking any up
	} {
		isPlay(t, join(l, isFileWith(p, s))...)
	}
	for p, code := range map[string]api.Errno{
		"/ab/a": errNone, "/ab/b/f": errNone, "/ab/up/up": errNone, "/ab/top/b": errNone, "/a/ab": errNone, "/ab/nobody/up/f": errNone,
		"/ab/f/f": errNotDir, "/ab/up/f/f": errNotDir, "/ab/top/f/b": errNotDir,
	} {
		isPlay(t, join(l, isRefused(p, code))...)
	}
	isPlay(t, with(l, made(mkdir("/ab/d"), create("/ab/d/g"), link("/ab/d/h", "../f"), mkdir("/ab/top/t"), rename("/ab/f", "/ab/up/here/k"), remove("/ab/up/f"))...)...)
	isPlay(t, join(l, made(mkdir("/ab/d"), rename("/ab/f", "/ab/up/k"), remove("/ab/up/f")), []pair{{list("/a/b"), names("d top up x")}, {list("/a"), names("b here k")}, {all("/a/k"), data("deep")}, {list("/"), names("a ab f")}})...)
}

func TestALinkLeadsFromWhereItStands(t *testing.T) {
	isPlay(t, join(halls(), made(link("/l", "f")), isFileWith("/l", "top"),
		made(rename("/l", "/a/l")), isFileWith("/a/l", "mid"),
		made(rename("/a/l", "/a/b/k")), isFileWith("/a/b/k", "deep"),
		made(rename("/a/b", "/b")), isFileWith("/b/k", "deep"),
		made(rename("/b/k", "/k"), remove("/f")), isRefused("/k", errNone),
		made(mkdir("/f")), []pair{{list("/k"), names("")}}, made(create("/k/n")), []pair{{list("/f"), names("n")}})...)
	isPlay(t, join(halls(), made(link("/a/b/l", "../f")), isFileWith("/a/b/l", "mid"), // the directory was renamed: its names are others
		made(rename("/a/b", "/c")), isFileWith("/c/l", "top"),
		made(rename("/c", "/a/c")), isFileWith("/a/c/l", "mid"),
		made(rename("/a", "/z")), isFileWith("/z/c/l", "mid"))...)
	isPlay(t, join(halls(), made(link("/a/b/l", "/a/f")), isFileWith("/a/b/l", "mid"), made(rename("/a", "/z")), isRefused("/z/b/l", errNone))...)
	isPlay(t, join(halls(), made(link("/m", "a/b"), link("/a/b/l", "../f")), isFileWith("/m/l", "mid"))...) // it stands in /a/b, however one came there
}

// chain: links l0 to as many as that, of which each but l0 leads to the one ahead.
func chain(first string, n int) (l []pair) {
	l = made(link("/l0", first))
	for i := 1; i < n; i++ {
		l = append(l, made(link(fmt.Sprintf("/l%d", i), fmt.Sprintf("l%d", i-1)))...)
	}
	return l
}

func TestLinksToLinks(t *testing.T) {
	for n := range 2*links + 1 {
		last := fmt.Sprintf("/l%d", n)
		through := n + 1
		for _, to := range []string{"a/b/f", "/a/b/f", "./a//b/f"} {
			l := join(halls(), chain(to, n+1))
			if through <= links {
				isPlay(t, join(l, isFileWith(last, "deep"), isRefused(last+"/x", errNotDir))...)
			} else {
				isPlay(t, join(l, isRefused(last, errLoop), isRefused(last+"/x", errLoop), isFileWith("/l7", "deep"))...)
			}
		}
		l := join(halls(), chain("a", n+1))
		if through <= links {
			isPlay(t, join(l, isFileWith(last+"/f", "mid"), isFileWith(last+"/b/f", "deep"), isRefused(last+"/x", errNone), made(mkdir(last+"/x")))...)
		} else {
			isPlay(t, join(l, isRefused(last+"/f", errLoop), []pair{{mkdir(last + "/x"), refused(errLoop)}, {remove(last + "/f"), refused(errLoop)}})...)
		}
	}
}

func TestLinksToLinksThatAreRefused(t *testing.T) {
	for to, code := range map[string]api.Errno{"nobody": errNone, "f/x": errNotDir, "\x00": errForm, strings.Repeat("/x", deep+1): errFull, strings.Repeat("x", wide+1): errForm} {
		for n := range links + 4 {
			last := fmt.Sprintf("/l%d", n)
			want := code
			if n >= links { // ahead of what the path of the last one is refused with
				want = errLoop
			}
			isPlay(t, join(halls(), chain(to, n+1), isRefused(last, want), isRefused(last+"/x", want))...)
		}
	}
}

func TestHowManyLinksLeadOn(t *testing.T) {
	l := join(halls(), made(link("/s", "."), link("/a/s", "."), link("/k", "f"), link("/x", "\x00"), link("/y", strings.Repeat("/y", deep))))
	for n := range deep {
		way := strings.Repeat("/s", n)
		if n > links {
			isPlay(t, join(l, isRefused(way, errLoop), isRefused(way+"/f", errLoop), isRefused(way+"/nobody", errLoop), []pair{{create(way + "/n"), refused(errLoop)}, {remove(way + "/f"), refused(errLoop)}, {rename(way+"/f", "/n"), refused(errLoop)}, {rename("/f", way+"/n"), refused(errLoop)}})...)
			continue
		}
		isPlay(t, join(l, isFileWith(way+"/f", "top"), isRefused(way+"/nobody", errNone), isRefused(way+"/f/x", errNotDir), []pair{{list(way), names("a f k s x y")}}, made(create(way+"/n"), remove(way+"/n"), rename("/f", way+"/n"), rename(way+"/n", way+"/f")))...)
		// one more, which is the last name
		if n == links {
			isPlay(t, join(l, isRefused(way+"/k", errLoop), isRefused(way+"/x", errLoop), isRefused(way+"/s", errLoop), isRefused(way+"/y", errLoop))...)
		} else {
			isPlay(t, join(l, isFileWith(way+"/k", "top"), isRefused(way+"/x", errForm))...)
		}
		isPlay(t, with(l, made(rename(way+"/k", way+"/k2"), remove(way+"/k2"), remove(way+"/x"), link(way+"/z", "z"))...)...) // it is not followed, so it doesn't count
		// others behind it, of another directory
		if left := links - n; left > 0 && n+left < deep-1 {
			isPlay(t, join(l, isFileWith(way+"/a"+strings.Repeat("/s", left)+"/f", "mid"), isFileWith(way+"/a"+strings.Repeat("/s", left)+"/b/f", "deep"))...)
		}
		if more := links - n + 1; n+more < deep-1 {
			isPlay(t, join(l, isRefused(way+"/a"+strings.Repeat("/s", more)+"/f", errLoop))...)
		}
	}
	way := strings.Repeat("/s", links)
	isPlay(t, with(l, made(rename(way+"/f", way+"/n"), rename(way+"/a", way+"/b"))...)...) // of each of two paths as many
}

func TestLinksThatGoRound(t *testing.T) {
	l := made(link("/o", "o"), link("/p", "q"), link("/q", "/p"), mkdir("/d"), link("/d/r", "../d/r/x"), link("/u", "v/x"), link("/v", "u"))
	for _, p := range strings.Fields("/o /p /q /d/r /u /v /o/x /p/x /q/x/y /d/r/x") {
		isPlay(t, join(l, isRefused(p, errLoop))...)
	}
	for _, a := range []api.Act{mkdir("/o/x"), create("/p/x"), link("/q/x", "y"), remove("/o/x"), rename("/p/x", "/n"), rename("/d", "/q/x")} {
		isPlay(t, with(l, pair{a, refused(errLoop)}, pair{list("/"), names("d o p q u v")})...)
	}
}

// deepDir: as many directories in one another as a path may have names, and no more than n.
func deepDir(n int) (l []pair, p string) {
	for i := range n {
		p += "/" + string([]byte{byte('a' + i)})
		l = append(l, made(mkdir(p))...)
	}
	return l, p
}

func TestAsManyNamesAsMayBeToBeLookedUp(t *testing.T) {
	l, p := deepDir(deep)
	isPlay(t, join(l, []pair{{list(p), names("")}, {mkdir(p + "/x"), refused(errFull)}, {stat(p + "/x"), refused(errFull)}, {rename(p, p[:4]+"/x"), done}, {rename("/a", p+"/x"), refused(errFull)}})...)

	for m := range deep + 1 { // how many names the path of the link has, and how many stand behind it
		for rest := range deep {
			to, behind := "/"+strings.Repeat("y/", m), strings.Repeat("/z", rest)
			code := errNone
			switch {
			case m+rest > deep:
				code = errFull
			case m+rest == 0:
				code = ok
			}
			if code != ok {
				isPlay(t, join(made(link("/l", to)), isRefused("/l"+behind, code))...)
			}
			if rest == 0 {
				continue
			}
			code = errNone // all names but the last one are looked up then
			switch {
			case m+rest-1 > deep:
				code = errFull
			case m+rest-1 == 0:
				code = ok
			}
			isPlay(t, with(made(link("/l", to)), pair{mkdir("/l" + behind), refused(code)})...)
			isPlay(t, with(made(link("/l", to), create("/f")), pair{rename("/f", "/l"+behind), refused(code)})...)
			code = errNone // but here the last one, too, though it is not followed
			if m+rest > deep {
				code = errFull
			}
			isPlay(t, with(made(link("/l", to)), pair{remove("/l" + behind), refused(code)}, pair{rename("/l"+behind, "/n"), refused(code)})...)
		}
	}
}

func TestAsManyNamesFromADirectoryOn(t *testing.T) {
	for k := range deep { // how many names the directory has, the path of the link, and how many stand behind it
		for m := range deep + 2 {
			for rest := range deep - k {
				l, p := deepDir(k)
				to, behind := "."+strings.Repeat("/y", m), strings.Repeat("/z", rest)
				code := errNone
				switch {
				case k+m+rest > deep:
					code = errFull
				case m == 0 && rest == 0:
					code = ok
				}
				if code == ok {
					isPlay(t, join(l, made(link(p+"/l", to)), []pair{{list(p + "/l"), names("l")}})...)
				} else {
					isPlay(t, join(l, made(link(p+"/l", to)), isRefused(p+"/l"+behind, code))...)
				}
			}
		}
	}
}

func TestANodeBeyondTheNamesThatAPathHas(t *testing.T) {
	l, p := deepDir(deep)
	l = join(l, made(link("/z", p), mkdir("/z/m")), []pair{{list("/z"), names("m")}, {list(p), names("m")}, {stat(p), aDir(1)}}) // its directory is found by all names of its path but the last one
	for _, way := range []string{"/z/m", p + "/m", "/z/m/x"} {
		l = join(l, isRefused(way, errFull))
	}
	l = join(l, []pair{{remove("/z/m"), refused(errFull)}, {remove("/z"), done}, {remove(p), refused(errNotEmpty)}})
	isPlay(t, join(l, made(rename("/a/b", "/b")), []pair{{stat(p[2:] + "/m"), aDir(0)}, {remove(p[2:] + "/m"), done}, {remove(p[2:]), done}})...)

	l, p = deepDir(deep)
	l = join(l, made(mkdir("/y"), rename("/a", "/y/a")), []pair{{stat("/y" + p[:len(p)-2]), aDir(1)}, {stat("/y" + p), refused(errFull)}, {list("/y" + p[:len(p)-2]), names("l")}, {remove("/y" + p[:len(p)-2]), refused(errNotEmpty)}})
	isPlay(t, join(l, made(rename("/y/a/b", "/b"), create(p[2:]+"/f")), []pair{{list(p[2:]), names("f")}, {list("/y/a"), names("")}})...)
	isPlay(t, join(l, made(rename("/y/a", "/a"), mkdir("/y/a"), remove(p)), []pair{{list(p[:len(p)-2]), names("")}})...)
}
