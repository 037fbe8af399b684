package delta_test

import (
	"math/big"
	"slices"
	"strings"
	"testing"
	"time"

	"packthread/api"
	"packthread/delta"
)

// A plain search that tries every place, beside which the package is laid.

// plain: the pieces that make now of old.
func plain(old, now string) []api.Piece {
	var l []api.Piece
	data := ""
	for now != "" {
		n := 0
		for n < len(now) && strings.Contains(old, now[:n+1]) {
			n++
		}
		if n < least {
			data, now = data+now[:1], now[1:]
			continue
		}
		l = append(append(l, said(data)...), copied(strings.Index(old, now[:n]), n))
		data, now = "", now[n:]
	}
	return append(l, said(data)...)
}

// plainPatch: what pieces make of old, byte by byte, with numbers that have no bounds.
func plainPatch(old string, l []api.Piece) (string, api.Errno) {
	if len(old) > most || len(l) > most {
		return "", errSize
	}
	var now []byte
	for _, p := range l {
		if p.Copy && len(p.Data) > 0 || !p.Copy && (p.From != 0 || p.Len != 0) {
			return "", errForm
		}
		to := new(big.Int).Add(big.NewInt(int64(p.From)), big.NewInt(int64(p.Len)))
		if p.From < 0 || p.Len < 0 || to.Cmp(big.NewInt(int64(len(old)))) > 0 {
			return "", errRange
		}
		for i := range p.Len {
			now = append(now, old[p.From+i])
		}
		for _, b := range p.Data {
			now = append(now, b)
		}
		if len(now) > most {
			return "", errOver
		}
	}
	return string(now), ok
}

// words: all texts of up to n of these parts.
func words(n int, parts ...string) []string {
	out := []string{""}
	last := out
	for range n {
		var next []string
		for _, s := range last {
			for _, p := range parts {
				next = append(next, s+p)
			}
		}
		out, last = append(out, next...), next
	}
	return out
}

// isPlain: the same pieces as those of the plain search.
func isPlain(t *testing.T, old, now string) {
	t.Helper()
	isDelta(t, old, now, plain(old, now)...)
}

func TestModelAllShortFiles(t *testing.T) {
	files := words(9, "a", "b")
	for _, old := range files {
		for _, now := range files {
			if len(old) >= least && len(now) >= least {
				isPlain(t, old, now)
			}
		}
	}
	few := words(5, "a", "b", "c")
	for _, old := range few {
		for _, now := range few {
			if (len(old)+len(now))%3 == 0 {
				isDelta(t, old, now, said(now)...)
			}
		}
	}
}

// TestModelAllFilesOfFewParts: all files of a few parts that have much in common.
func TestModelAllFilesOfFewParts(t *testing.T) {
	for _, parts := range [][]string{{"aaaaaaaa", "a", "b"}, {"aaaa", "aab", "baa"}, {"01234567", "1234567", "0123456"}, {"0123", "4567", "x"}, {"abababa", "ab", "ba"}} {
		files := words(5, parts...)
		for i, old := range files {
			for k, now := range files {
				if (i+k)%3 == 0 || i == k {
					isPlain(t, old, now)
				}
			}
		}
	}
}

// dice: numbers from 0 on, below n, the same ones each time.
func dice(seed uint32) func(n int) int {
	state := seed*2654435761 + 12345
	return func(n int) int {
		state = state*1664525 + 1013904223
		return int(state>>8) % n
	}
}

// someFile: a file of at most n bytes, of some bytes.
func someFile(roll func(int) int, n, kinds int) string {
	b := make([]byte, roll(n+1))
	for i := range b {
		b[i] = byte('a' + roll(kinds))
	}
	return string(b)
}

// edited: a file in which here and there something is taken away, put in, doubled or moved.
func edited(roll func(int) int, s string, kinds int) string {
	for range 1 + roll(8) {
		at := roll(len(s) + 1)
		to := at + roll(min(len(s)-at, 40)+1)
		switch roll(5) {
		case 0:
			s = s[:at] + s[to:]
		case 1:
			s = s[:at] + someFile(roll, 12, kinds) + s[at:]
		case 2:
			s = s[:to] + s[at:]
		case 3:
			s = s[to:] + s[:at]
		case 4:
			s = s[:at] + someFile(roll, 2, kinds) + s[to:]
		}
	}
	return s[:min(len(s), most)]
}

func TestModelEditedFiles(t *testing.T) {
	copies := 0
	for seed := range uint32(4000) {
		roll := dice(seed)
		kinds := []int{1, 2, 3, 4, 26}[seed%5]
		n := []int{30, 100, 300, most}[seed/5%4]
		old := someFile(roll, n, kinds)
		now := edited(roll, old, kinds)
		want := plain(old, now)
		isDelta(t, old, now, want...)
		if len(want) > 3 {
			copies++
		}
	}
	if copies < 1000 {
		t.Fatalf("%d of more than three pieces", copies)
	}
}

func TestModelPatchOfShortLists(t *testing.T) {
	var pieces []api.Piece
	for _, from := range []int{-1, 0, 1, 2, 3} {
		for _, n := range []int{-1, 0, 1, 2, 3} {
			for _, data := range []string{"", "x"} {
				for _, yes := range []bool{false, true} {
					pieces = append(pieces, api.Piece{Copy: yes, From: from, Len: n, Data: []byte(data)})
				}
			}
		}
	}
	for _, old := range []string{"", "a", "ab"} {
		for _, p := range pieces {
			isPlainPatch(t, old, p)
			for _, q := range pieces {
				isPlainPatch(t, old, p, q)
				for i := range pieces {
					isPlainPatch(t, old, pieces[i], p, q)
					if old != "ab" {
						break
					}
				}
			}
		}
	}
}

func isPlainPatch(t *testing.T, old string, l ...api.Piece) {
	t.Helper()
	want, code := plainPatch(old, l)
	if b, e := delta.Patch([]byte(old), l); string(b) != want || e != code {
		t.Fatalf("Patch(%s, %s): %s %d, want %s %d", short(old), shorts(l), short(string(b)), e, short(want), code)
	}
}

// TestModelPatchOfLongLists: pieces that may be, most of them, up to all the bytes that may come of them.
func TestModelPatchOfLongLists(t *testing.T) {
	seen := map[api.Errno]int{}
	for seed := range uint32(20000) {
		roll := dice(seed + 31337)
		old := someFile(roll, []int{0, 5, 100, most}[roll(4)], 26)
		var l []api.Piece
		for range roll([]int{3, 20, 100}[roll(3)]) {
			at := roll(len(old) + 1)
			p := copied(at, roll(min(len(old)-at, 90)+1))
			if roll(2) == 0 {
				p = told(someFile(roll, 90, 26))
			}
			l = append(l, p)
		}
		if len(l) > 0 && roll(3) == 0 {
			p := &l[roll(len(l))]
			odd := append(far(), -1, 1, len(old), len(old)+1)
			switch roll(4) {
			case 0:
				p.Copy = !p.Copy
			case 1:
				p.From = odd[roll(len(odd))]
			case 2:
				p.Len = odd[roll(len(odd))]
			case 3:
				p.Data = []byte(someFile(roll, most+9, 3))
			}
		}
		_, code := plainPatch(old, l)
		seen[code]++
		isPlainPatch(t, old, l...)
	}
	for _, code := range []api.Errno{ok, errForm, errRange, errOver} {
		if seen[code] < 500 {
			t.Fatalf("%d only %d times", code, seen[code])
		}
	}
}

// hard: files in which the same comes again and again.
func hard() []string {
	a := strings.Repeat("a", most)
	l := []string{a, a[:most-1] + "b", "b" + a[1:], a[:most/2-1] + "bb" + a[:most/2-1], strings.Repeat("ab", most/2), strings.Repeat("abc", most/3), strings.Repeat("aaaaaaab", most/8), strings.Repeat("aaaaaaaab", most/9), strings.Repeat(a[:40]+"b", most/41), strings.Repeat(a[:44]+"b", most/45)}
	for i := range 4 {
		var b strings.Builder
		for n := 8 + i; b.Len()+n < most; n++ {
			b.WriteString(a[:n] + "b")
		}
		l = append(l, b.String())
	}
	return l
}

// TestShortTime: at MaxFile bytes, too.
func TestShortTime(t *testing.T) {
	files := hard()
	begin := time.Now()
	for _, old := range files {
		for _, now := range files {
			delta.Delta([]byte(old), []byte(now))
		}
	}
	if spent := time.Since(begin); spent > 30*time.Second {
		t.Fatalf("%v for %d files", spent, len(files)*len(files))
	}
	for i, old := range files {
		for k, now := range files {
			if (i+k)%7 == 0 {
				isPlain(t, old, now)
			}
		}
	}
}

// TestCallsEnd: at pieces of all kinds none of the calls panics.
func TestCallsEnd(t *testing.T) {
	for seed := range uint32(20000) {
		roll := dice(seed)
		odd := append(far(), 0, 1, 2, 8, most, most+1)
		var l []api.Piece
		for range roll(6) {
			l = append(l, api.Piece{Copy: roll(2) == 0, From: odd[roll(len(odd))] * roll(2), Len: odd[roll(len(odd))] * roll(2), Data: []byte(someFile(roll, roll(3), 2))})
		}
		old, now := someFile(roll, 40, 2), someFile(roll, 40, 2)
		isPlainPatch(t, old, l...)
		isPlain(t, old, now)
	}
	for _, n := range []int{0, 1, most, most + 1, 1 << 20} {
		delta.Delta(nil, make([]byte, n))
		delta.Delta(make([]byte, n), nil)
		delta.Patch(make([]byte, n), make([]api.Piece, n))
		delta.Patch(nil, slices.Repeat([]api.Piece{copied(-1<<63, 1<<63-1)}, n))
	}
}
