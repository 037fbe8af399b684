package huff_test

import (
	"bytes"
	"math"
	"strings"
	"testing"

	"packthread/api"
	"packthread/huff"
)

// areBytes: what Encode answers, written out.
func areBytes(t *testing.T, lengths, symbols []int, want []byte, wantCode api.Errno) {
	t.Helper()
	b, code := huff.Encode(lengths, symbols)
	if !bytes.Equal(b, want) || code != wantCode {
		t.Fatalf("Encode(%s, %s): %s %d, want %s %d", short(lengths), short(symbols), shortBytes(b), code, shortBytes(want), wantCode)
	}
}

// arePlain: the bytes of the plain model, and they are decoded again.
func arePlain(t *testing.T, lengths, symbols []int) {
	t.Helper()
	b, want := plainEncode(lengths, symbols)
	areBytes(t, lengths, symbols, b, want)
	if want == ok && len(symbols) <= most {
		areSymbols(t, lengths, b, len(symbols), symbols, ok)
	}
}

// known: the symbols that have a code.
func known(lengths []int) []int {
	var l []int
	for s, n := range lengths {
		if n > 0 {
			l = append(l, s)
		}
	}
	return l
}

func TestEncode(t *testing.T) {
	areBytes(t, []int{1}, []int{0}, []byte{0}, ok)
	areBytes(t, []int{1, 1}, []int{1}, []byte{128}, ok)
	areBytes(t, []int{1, 1}, []int{0, 1, 1, 0, 0, 0, 1, 1}, []byte{0x63}, ok)
	areBytes(t, []int{1, 1}, []int{0, 1, 1, 0, 0, 0, 1, 1, 1}, []byte{0x63, 0x80}, ok)
	areBytes(t, []int{1, 1}, []int{0, 1, 1, 0, 0, 0, 1}, []byte{0x62}, ok)
	areBytes(t, []int{1, 2, 2}, []int{2, 2, 1, 0, 2}, []byte{0xf9, 0x80}, ok)
	areBytes(t, []int{1, 9}, []int{1}, []byte{0x80, 0}, ok)
	areBytes(t, []int{1, 9, 9}, []int{2}, []byte{0x80, 0x80}, ok)
	areBytes(t, []int{1, 9, 9}, []int{0, 2, 1}, []byte{0x40, 0x60, 0}, ok)
	areBytes(t, same(6, many), []int{1, 2, 62, 63}, []byte{0x04, 0x2f, 0xbf}, ok)
	areBytes(t, same(8, many), []int{1, 2, 62, 63, 0}, []byte{1, 2, 62, 63, 0}, ok)
	for _, l := range good() {
		for _, s := range known(l) {
			arePlain(t, l, []int{s})
			arePlain(t, l, []int{s, s})
			arePlain(t, l, same(s, 9))
		}
		arePlain(t, l, known(l))
		arePlain(t, l, turned(known(l)))
		arePlain(t, l, append(known(l), known(l)...))
	}
}

func TestEncodeNothing(t *testing.T) {
	for _, l := range good() {
		areBytes(t, l, nil, nil, ok)
		areBytes(t, l, []int{}, nil, ok)
		areBytes(t, l, []int{1, 2}[:0], nil, ok)
	}
}

// TestEncodeLongCodes: of MaxLong bits.
func TestEncodeLongCodes(t *testing.T) {
	areBytes(t, []int{long}, []int{0}, make([]byte, 5), ok)
	areBytes(t, same(long, many), []int{63, 1}, []byte{0, 0, 0, 0, 63, 0, 0, 0, 0, 1}, ok)
	areBytes(t, stairs(long), []int{long}, []byte{255, 255, 255, 255, 255}, ok)
	areBytes(t, stairs(long), []int{long - 1}, []byte{255, 255, 255, 255, 254}, ok)
	areBytes(t, stairs(long), []int{0, long, 0, long - 1, 0}, []byte{127, 255, 255, 255, 255, 191, 255, 255, 255, 255, 128}, ok)
	areBytes(t, []int{1, long, long}, []int{2, 1}, []byte{128, 0, 0, 0, 1, 128, 0, 0, 0, 0}, ok)
	for n := 1; n <= long; n++ {
		l := stairs(n)
		for ahead := range 9 { // it begins at each bit of a byte
			arePlain(t, l, append(same(0, ahead), n))
			arePlain(t, l, append(append(same(0, ahead), n), n-1, 0, n, n))
		}
	}
}

// TestWhereCodesEnd: just where a byte ends, ahead of it, and behind it; the bits that are left are 0.
func TestWhereCodesEnd(t *testing.T) {
	for n := range 70 {
		want := bytes.Repeat([]byte{255}, n/8)
		if n%8 > 0 {
			want = append(want, byte(255<<(8-n%8)))
		}
		areBytes(t, []int{1, 1}, same(1, n), want, ok)
		areBytes(t, []int{1, 1}, same(0, n), make([]byte, (n+7)/8), ok)
		arePlain(t, []int{1, 1}, same(1, n))
	}
	for n := 1; n <= long; n++ { // the last bit of each code is 1
		for k := 1; k <= 17; k++ {
			b, code := huff.Encode(stairs(n), same(n, k))
			bits := n * k
			if len(b) != (bits+7)/8 || code != ok || plainText(b) != strings.Repeat("1", bits)+strings.Repeat("0", 8*len(b)-bits) {
				t.Fatalf("%d codes of %d bits: %v %d", k, n, b, code)
			}
		}
	}
}

// P19.4: errors.

func TestEncodeOddLengths(t *testing.T) {
	for _, l := range odd() {
		for _, symbols := range [][]int{nil, {0}, {1}, {-1}, {len(l)}, {0, 1, 0, 1}, same(-1, 1000)} {
			areBytes(t, l, symbols, nil, errForm)
		}
	}
}

func TestEncodeNoCode(t *testing.T) {
	for _, l := range good() {
		var none []int
		for s, n := range l {
			if n == 0 {
				none = append(none, s)
			}
		}
		none = append(none, far()...)
		none = append(none, -1, len(l), len(l)+1, many, many+1)
		for _, x := range none {
			if 0 <= x && x < len(l) && l[x] > 0 {
				continue
			}
			areBytes(t, l, []int{x}, nil, errNone)
			areBytes(t, l, []int{x, x}, nil, errNone)
			if k := known(l); len(k) > 0 {
				for _, n := range []int{1, 2, 5, 12} {
					for at := range n {
						areBytes(t, l, with(same(k[len(k)-1], n), at, x), nil, errNone)
						areBytes(t, l, with(same(k[0], n), at, x), nil, errNone)
					}
				}
			}
		}
	}
}

func TestEncodeNoCodeFarBehind(t *testing.T) {
	for _, n := range []int{1000, most, most + 1, 1 << 16} {
		for _, x := range []int{-1, 3, 4, math.MinInt, math.MaxInt} {
			for _, at := range []int{0, 1, n / 2, n - 1} {
				areBytes(t, []int{1, 2, 2, 0}, with(same(1, n), at, x), nil, errNone)
			}
		}
	}
}

// TestEncodeMany: there is no bound of symbols.
func TestEncodeMany(t *testing.T) {
	for _, n := range []int{most - 1, most, most + 1, 1 << 15, 1 << 20} {
		areBytes(t, []int{1, 1}, same(1, n), plainBytes(strings.Repeat("1", n)), ok)
		areBytes(t, stairs(long), same(long, n), bytes.Repeat([]byte{255}, 5*n), ok)
		areBytes(t, same(8, many), same(33, n), bytes.Repeat([]byte{33}, n), ok)
	}
}

func TestModelAllShortSymbols(t *testing.T) {
	for _, l := range [][]int{nil, {0}, {1}, {3}, {1, 1}, {1, 2, 2}, {2, 0, 2}, {3, 1, 2, 3}, {0, 9, 2, 8}, {long, 5, 1, long}} {
		for n := range 6 {
			for _, symbols := range lists(n, 5) { // of which 4 never has a code
				arePlain(t, l, symbols)
			}
		}
	}
}

func TestModelManySymbols(t *testing.T) {
	for seed := range uint32(1500) {
		roll := dice(seed)
		l := someLengths(roll)
		var symbols []int
		if k := known(l); len(k) > 0 {
			for range roll(300) {
				symbols = append(symbols, k[roll(len(k))])
			}
		}
		arePlain(t, l, symbols)
		if len(symbols) > 0 {
			x := roll(len(l)+2) - 1
			arePlain(t, l, with(symbols, roll(len(symbols)), x))
		}
	}
}

// TestModelWithLengthsOfCounts: what was counted, and coded so.
func TestModelWithLengthsOfCounts(t *testing.T) {
	for seed := range uint32(300) {
		roll := dice(seed)
		kinds := 1 + roll(many)
		symbols := make([]int, roll(most+1))
		counts := make([]int, kinds)
		for i := range symbols {
			symbols[i] = min(roll(kinds), roll(kinds), roll(kinds))
			counts[symbols[i]]++
		}
		l := isLeast(t, counts)
		arePlain(t, l, symbols)
		b, _ := huff.Encode(l, symbols)
		if bits := costOf(counts, l); len(b) != (bits+7)/8 {
			t.Fatalf("%d bytes, though it costs %d bits", len(b), bits)
		}
	}
}
