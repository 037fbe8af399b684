package msg_test

import (
	"slices"
	"strings"
	"testing"

	"packthread/api"
	"packthread/msg"
)

// P13.1: Ask.

func TestBytesOfEachKind(t *testing.T) {
	isBoth(t, api.Request{Kind: api.Open, Mark: 0x01020304, Path: "/a", How: 5}, []byte{1, 1, 2, 3, 4, 0, 2, 47, 97, 5})
	isBoth(t, api.Request{Kind: api.Shutdown, Mark: 0x01020304, Handle: 0x05060708}, []byte{2, 1, 2, 3, 4, 5, 6, 7, 8})
	isBoth(t, api.Request{Kind: api.ReadAt, Mark: 0x01020304, Handle: 0x05060708, At: 0x090a0b0c, Count: 0x0d0e}, []byte{3, 1, 2, 3, 4, 5, 6, 7, 8, 9, 10, 11, 12, 13, 14})
	isBoth(t, api.Request{Kind: api.WriteAt, Mark: 0x01020304, Handle: 0x05060708, At: 0x090a0b0c, Data: []byte{7, 0, 9}}, []byte{4, 1, 2, 3, 4, 5, 6, 7, 8, 9, 10, 11, 12, 0, 3, 7, 0, 9})
	isBoth(t, api.Request{Kind: api.Status, Mark: 0x01020304, Path: "ab"}, []byte{5, 1, 2, 3, 4, 0, 2, 97, 98})
	isBoth(t, api.Request{Kind: api.Names, Mark: 0x01020304, Path: "/"}, []byte{6, 1, 2, 3, 4, 0, 1, 47})
	isBoth(t, api.Request{Kind: api.NewDir, Mark: 0x01020304, Path: "/d"}, []byte{7, 1, 2, 3, 4, 0, 2, 47, 100})
	isBoth(t, api.Request{Kind: api.Delete, Mark: 0x01020304, Path: "x"}, []byte{8, 1, 2, 3, 4, 0, 1, 120})
	isBoth(t, api.Request{Kind: api.Move, Mark: 0x01020304, Path: "/a", To: "bcd"}, []byte{9, 1, 2, 3, 4, 0, 2, 47, 97, 0, 3, 98, 99, 100})
	isBoth(t, api.Request{Kind: api.Symlink, Mark: 0x01020304, Path: "l", To: "../x"}, []byte{10, 1, 2, 3, 4, 0, 1, 108, 0, 4, 46, 46, 47, 120})
}

func TestBytesOfKindsWithNothingInThem(t *testing.T) {
	for kind, want := range map[int][]byte{
		open: {1, 0, 0, 0, 0, 0, 0, 0}, shutdown: {2, 0, 0, 0, 0, 0, 0, 0, 0},
		readAt:  {3, 0, 0, 0, 0, 0, 0, 0, 0, 0, 0, 0, 0, 0, 0},
		writeAt: {4, 0, 0, 0, 0, 0, 0, 0, 0, 0, 0, 0, 0, 0, 0},
		status:  {5, 0, 0, 0, 0, 0, 0}, names: {6, 0, 0, 0, 0, 0, 0}, newDir: {7, 0, 0, 0, 0, 0, 0}, del: {8, 0, 0, 0, 0, 0, 0},
		move: {9, 0, 0, 0, 0, 0, 0, 0, 0}, symlink: {10, 0, 0, 0, 0, 0, 0, 0, 0},
	} {
		isBoth(t, api.Request{Kind: kind}, want)
		isBoth(t, api.Request{Kind: kind, Data: []byte{}}, want)
	}
}

func TestEachKindIsItsBytes(t *testing.T) {
	for kind := open; kind <= lastKind; kind++ {
		isBoth(t, full(kind), asBytes(full(kind)))
	}
}

func TestAskOfNoKind(t *testing.T) {
	for _, kind := range noKinds() {
		isNoRequest(t, api.Request{Kind: kind}, errKind)
		for other := open; other <= lastKind; other++ {
			r := full(other)
			r.Kind = kind
			isNoRequest(t, r, errKind)
		}
	}
}

func TestAskOfWhatItsKindDoesNotName(t *testing.T) {
	for kind := open; kind <= lastKind; kind++ {
		for _, part := range strings.Fields(allParts) {
			if slices.Contains(strings.Fields(parts[kind]), part) {
				continue
			}
			for _, r := range []api.Request{{Kind: kind}, full(kind)} {
				isBoth(t, r, asBytes(r))
				one := r
				fill(&one, part)
				isNoRequest(t, one, errForm)
				if n := numberOf(&one, part); n != nil {
					for _, v := range append([]int{1, 255, 256, 65536, 1 << 24}, noNumbers(four)...) {
						*n = v
						isNoRequest(t, one, errForm)
					}
					*n = 0
					isBoth(t, one, asBytes(r))
				}
				if s := textOf(&one, part); s != nil {
					for _, v := range []string{"\x00", " ", "/", ".", text(mostText), text(mostText + 1), text(65536)} {
						*s = v
						isNoRequest(t, one, errForm)
					}
					*s = ""
					isBoth(t, one, asBytes(r))
				}
				if part == "Data" {
					for _, v := range [][]byte{{0}, make([]byte, mostData), make([]byte, mostData+1), make([]byte, 65536)} {
						one.Data = v
						isNoRequest(t, one, errForm)
					}
					for _, v := range [][]byte{nil, {}, make([]byte, 0, 9)} {
						one.Data = v
						isBoth(t, one, asBytes(r))
					}
				}
			}
		}
	}
}

func TestAskOfAnyPartsBesideThose(t *testing.T) {
	all := strings.Fields(allParts)
	for kind := open; kind <= lastKind; kind++ {
		for bits := range 1 << len(all) {
			r, more := api.Request{Kind: kind, Mark: 7}, false
			for i, part := range all {
				if bits>>i&1 == 1 {
					fill(&r, part)
					more = more || !slices.Contains(strings.Fields(parts[kind]), part)
				}
			}
			if more {
				isNoRequest(t, r, errForm)
			} else {
				isBoth(t, r, asBytes(r))
			}
		}
	}
}

func TestAskOfNumbers(t *testing.T) {
	for name, most := range mostOf {
		kinds := naming(name)
		if name == "Mark" {
			kinds = []int{1, 2, 3, 4, 5, 6, 7, 8, 9, 10}
		}
		for _, kind := range kinds {
			for _, r := range []api.Request{{Kind: kind}, full(kind)} {
				n := numberOf(&r, name)
				for _, v := range numbers(most) {
					*n = v
					isBoth(t, r, asBytes(r))
				}
				for _, v := range noNumbers(most) {
					*n = v
					isNoRequest(t, r, errRange)
				}
			}
		}
	}
}

func TestNumbersAtTheirBounds(t *testing.T) {
	isBoth(t, api.Request{Kind: open, Mark: four, How: one}, []byte{1, 255, 255, 255, 255, 0, 0, 255})
	isBoth(t, api.Request{Kind: shutdown, Mark: four, Handle: four}, []byte{2, 255, 255, 255, 255, 255, 255, 255, 255})
	isBoth(t, api.Request{Kind: readAt, Mark: four, Handle: four, At: four, Count: two}, []byte{3, 255, 255, 255, 255, 255, 255, 255, 255, 255, 255, 255, 255, 255, 255})
	isBoth(t, api.Request{Kind: readAt, Mark: 1 << 31, Handle: 1 << 31, At: 1 << 31, Count: 1 << 15}, []byte{3, 128, 0, 0, 0, 128, 0, 0, 0, 128, 0, 0, 0, 128, 0})
	isBoth(t, api.Request{Kind: writeAt, Mark: four, Handle: four, At: four}, []byte{4, 255, 255, 255, 255, 255, 255, 255, 255, 255, 255, 255, 255, 0, 0})
	isNoRequest(t, api.Request{Kind: open, How: one + 1}, errRange)
	isNoRequest(t, api.Request{Kind: readAt, Count: two + 1}, errRange)
	isNoRequest(t, api.Request{Kind: readAt, At: four + 1}, errRange)
	isNoRequest(t, api.Request{Kind: shutdown, Handle: four + 1}, errRange)
	isNoRequest(t, api.Request{Kind: status, Mark: four + 1}, errRange)
	isNoRequest(t, api.Request{Kind: status, Mark: -1}, errRange)
}

func TestAskOfAllSmallNumbers(t *testing.T) {
	for how := range one + 1 { // what of these opens is who serves' to say
		isBoth(t, api.Request{Kind: open, How: how}, []byte{1, 0, 0, 0, 0, 0, 0, byte(how)})
	}
	for count := range two + 1 {
		isBoth(t, api.Request{Kind: readAt, Count: count}, []byte{3, 0, 0, 0, 0, 0, 0, 0, 0, 0, 0, 0, 0, byte(count / 256), byte(count % 256)})
	}
}

func TestAskOfTexts(t *testing.T) {
	for _, name := range []string{"Path", "To"} {
		for _, kind := range naming(name) {
			for _, r := range []api.Request{{Kind: kind}, full(kind)} {
				s := textOf(&r, name)
				for n := range mostText + 1 {
					for _, v := range []string{text(n), string(chance(n, n)), strings.Repeat("\x00", n), strings.Repeat("\xff", n)} {
						*s = v
						isBoth(t, r, asBytes(r))
					}
				}
				for _, n := range []int{mostText + 1, mostText + 2, 255, 256, 257, 256 + mostText, 65535, 65536, 65537, 65536 + mostText, 1 << 20} {
					*s = text(n)
					isNoRequest(t, r, errSize)
				}
				for _, v := range []string{"", ".", "..", "//", "/../..", "a\x00b", "\xff\xfe", "\u00e4\u20ac", "aaaaaaaaaaaaaaaaa"} { // a path need not be one that leads anywhere
					*s = v
					isBoth(t, r, asBytes(r))
				}
			}
		}
	}
}

func TestAskOfTwoTexts(t *testing.T) {
	for _, kind := range []int{move, symlink} {
		for _, n := range []int{0, 1, mostText, mostText + 1} {
			for _, m := range []int{0, 1, mostText, mostText + 1} {
				r := api.Request{Kind: kind, Mark: n, Path: text(n), To: string(chance(m, m))}
				if max(n, m) > mostText {
					isNoRequest(t, r, errSize)
				} else {
					isBoth(t, r, asBytes(r))
				}
			}
		}
	}
}

func TestAskOfData(t *testing.T) {
	for _, r := range []api.Request{{Kind: writeAt}, full(writeAt)} {
		for n := range mostData + 1 {
			for _, b := range [][]byte{chance(n, n), make([]byte, n)} {
				r.Data = b
				isBoth(t, r, asBytes(r))
			}
		}
		for _, n := range []int{mostData + 1, mostData + 2, mostText, 255, 256, 257, 256 + mostData, 65535, 65536, 65537, 65536 + mostData, 1 << 20} {
			r.Data = make([]byte, n)
			isNoRequest(t, r, errSize)
		}
	}
}

// TestAskTellsTheErrorThatIsNamedFirst: each step mends what was told.
func TestAskTellsTheErrorThatIsNamedFirst(t *testing.T) {
	r := api.Request{Kind: 11, Mark: -1, Path: text(mostText + 1), To: "x", How: one + 1, Handle: -1, At: four + 1, Count: two + 1, Data: make([]byte, mostData+1)}
	isNoRequest(t, r, errKind)
	r.Kind = writeAt
	isNoRequest(t, r, errForm)
	r.Path = ""
	isNoRequest(t, r, errForm)
	r.To = ""
	isNoRequest(t, r, errForm)
	r.How = 0
	isNoRequest(t, r, errForm)
	r.Count = 0
	isNoRequest(t, r, errRange)
	r.Handle = 0
	isNoRequest(t, r, errRange)
	r.At = 0
	isNoRequest(t, r, errRange)
	r.Mark = 0
	isNoRequest(t, r, errSize)
	r.Data = r.Data[1:]
	isBoth(t, r, asBytes(r))
}

// wrongs: each way to spoil a request of a kind, and what is told then, in the order in which they are named.
func wrongs(kind int) []wrong {
	l := []wrong{{errKind, func(r *api.Request) { r.Kind = 0 }}}
	var ranges, sizes []wrong
	for _, name := range strings.Fields(allParts) {
		named := slices.Contains(strings.Fields(parts[kind]), name)
		most, isNumber := mostOf[name]
		switch {
		case !named:
			l = append(l, wrong{errForm, func(r *api.Request) { fill(r, name) }})
		case isNumber:
			ranges = append(ranges, wrong{errRange, func(r *api.Request) { *numberOf(r, name) = most + 1 }}, wrong{errRange, func(r *api.Request) { *numberOf(r, name) = -1 }})
		case name == "Data":
			sizes = append(sizes, wrong{errSize, func(r *api.Request) { r.Data = make([]byte, mostData+1) }})
		default:
			sizes = append(sizes, wrong{errSize, func(r *api.Request) { *textOf(r, name) = text(mostText + 1) }})
		}
	}
	ranges = append(ranges, wrong{errRange, func(r *api.Request) { r.Mark = -1 }}, wrong{errRange, func(r *api.Request) { r.Mark = four + 1 }})
	return slices.Concat(l, ranges, sizes)
}

type wrong struct {
	code  api.Errno
	spoil func(r *api.Request)
}

func TestAskOfAnyTwoErrors(t *testing.T) {
	for kind := open; kind <= lastKind; kind++ {
		all := wrongs(kind)
		for i, first := range all {
			for _, second := range all[i:] {
				r := full(kind)
				first.spoil(&r)
				second.spoil(&r)
				isNoRequest(t, r, first.code)
				r = full(kind)
				second.spoil(&r)
				first.spoil(&r)
				isNoRequest(t, r, first.code)
			}
		}
	}
}

func TestNoBytesWithAnError(t *testing.T) {
	for kind := open; kind <= lastKind; kind++ {
		for _, w := range wrongs(kind) {
			r := full(kind)
			w.spoil(&r)
			if b, e := msg.Ask(r); len(b) != 0 || e != w.code {
				t.Fatalf("Ask(%s): %v %d, want none and %d", show(r), b, e, w.code)
			}
		}
	}
}
