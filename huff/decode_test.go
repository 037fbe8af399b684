package huff_test

import (
	"bytes"
	"math"
	"slices"
	"strings"
	"testing"

	"packthread/api"
	"packthread/huff"
)

// areSymbols: what Decode answers, written out.
func areSymbols(t *testing.T, lengths []int, b []byte, count int, want []int, wantCode api.Errno) {
	t.Helper()
	s, code := huff.Decode(lengths, b, count)
	if !slices.Equal(s, want) || code != wantCode {
		t.Fatalf("Decode(%s, %s, %d): %s %d, want %s %d", short(lengths), shortBytes(b), count, short(s), code, short(want), wantCode)
	}
}

// isPlain: the symbols of the plain model.
func isPlain(t *testing.T, lengths []int, b []byte, count int) {
	t.Helper()
	s, code := plainDecode(lengths, b, count)
	areSymbols(t, lengths, b, count, s, code)
}

func TestDecode(t *testing.T) {
	areSymbols(t, []int{1}, []byte{0}, 1, []int{0}, ok)
	areSymbols(t, []int{1}, []byte{0}, 8, same(0, 8), ok)
	areSymbols(t, []int{1, 1}, []byte{0x63}, 8, []int{0, 1, 1, 0, 0, 0, 1, 1}, ok)
	areSymbols(t, []int{1, 2, 2}, []byte{0xf9, 0x80}, 5, []int{2, 2, 1, 0, 2}, ok)
	areSymbols(t, []int{1, 9, 9}, []byte{0x40, 0x60, 0}, 3, []int{0, 2, 1}, ok)
	areSymbols(t, same(6, many), []byte{0x04, 0x2f, 0xbf}, 4, []int{1, 2, 62, 63}, ok)
	areSymbols(t, same(long, many), []byte{0, 0, 0, 0, 63, 0, 0, 0, 0, 1}, 2, []int{63, 1}, ok)
	areSymbols(t, stairs(long), []byte{127, 255, 255, 255, 255, 191, 255, 255, 255, 255, 128}, 5, []int{0, long, 0, long - 1, 0}, ok)
}

// TestDecodeMoreBytes: what is behind the symbols is not looked at.
func TestDecodeMoreBytes(t *testing.T) {
	for _, l := range good() {
		k := known(l)
		for _, symbols := range [][]int{nil, k, turned(k), append(turned(k), k...)} {
			b, _ := plainEncode(l, symbols)
			for _, more := range [][]byte{nil, {0}, {255}, {170}, {1, 2, 3, 4, 5, 6}, bytes.Repeat([]byte{255}, 60)} {
				areSymbols(t, l, slices.Concat(b, more), len(symbols), symbols, ok)
				for n := range symbols {
					areSymbols(t, l, slices.Concat(b, more), n, symbols[:n], ok)
				}
			}
			for i := range 256 { // nor the bits that are left of the last byte
				if len(b) > 0 && len(symbols) < 10 {
					bits := 0
					for _, s := range symbols {
						bits += l[s]
					}
					last := b[len(b)-1] | byte(i)&byte(1<<(8*len(b)-bits)-1)
					areSymbols(t, l, append(bytes.Clone(b[:len(b)-1]), last), len(symbols), symbols, ok)
				}
			}
		}
	}
}

func TestDecodeNoSymbols(t *testing.T) {
	for _, l := range good() {
		for _, b := range [][]byte{nil, {}, {0}, {255}, {1, 2, 3, 4, 5, 6, 7}} {
			areSymbols(t, l, b, 0, nil, ok)
		}
	}
}

func TestDecodeNoBytes(t *testing.T) {
	for _, l := range good() {
		want := errNone // no code begins with nothing where there are none
		if len(known(l)) > 0 {
			want = errShort
		}
		for _, b := range [][]byte{nil, {}, []byte{0, 0, 0, 0, 0, 0}[:0]} {
			for _, count := range []int{1, 2, 100, most} {
				areSymbols(t, l, b, count, nil, want)
			}
		}
	}
}

func TestDecodeNoCodes(t *testing.T) {
	for _, l := range [][]int{nil, {}, {0}, {0, 0}, same(0, many)} {
		for n := range 9 {
			for _, x := range []byte{0, 255, 128, 1} {
				b := bytes.Repeat([]byte{x}, n)
				areSymbols(t, l, b, 0, nil, ok)
				areSymbols(t, l, b, 1, nil, errNone)
				areSymbols(t, l, b, most, nil, errNone)
				areSymbols(t, l, b, most+1, nil, errRange)
			}
		}
	}
}

// P19.4: errors.

func TestDecodeCount(t *testing.T) {
	counts := []int{-1, -2, most + 1, most + 2, 2 * most, 1 << 32, 1<<32 + 1, 1 - 1<<32, -1 << 32, math.MinInt, math.MinInt + 1, math.MaxInt, math.MaxInt - 1}
	long5 := make([]byte, 5*most+5)
	for _, count := range counts {
		for _, l := range good() {
			for _, b := range [][]byte{nil, {0}, {255, 255}, long5} {
				areSymbols(t, l, b, count, nil, errRange)
			}
		}
		for _, l := range odd() { // both: the one that is named first
			for _, b := range [][]byte{nil, {0}, long5} {
				areSymbols(t, l, b, count, nil, errForm)
			}
		}
	}
	for _, count := range []int{0, 1, 2, most - 1, most} {
		areSymbols(t, []int{1}, long5, count, same(0, count), ok)
		areSymbols(t, []int{0, long}, long5, count, same(1, count), ok)
		areSymbols(t, []int{0, long}, long5[:5*count], count, same(1, count), ok)
		areSymbols(t, []int{8, 8}, bytes.Repeat([]byte{1}, most), count, same(1, count), ok)
		if count > 0 {
			areSymbols(t, []int{0, long}, long5[:5*count-1], count, nil, errShort)
			areSymbols(t, []int{8, 8}, bytes.Repeat([]byte{1}, count-1), count, nil, errShort)
		}
	}
	for _, l := range odd() {
		areSymbols(t, l, long5, 1, nil, errForm)
		areSymbols(t, l, nil, 0, nil, errForm)
	}
}

// TestDecodeEndsTooEarly: at each bit ahead of a code's end.
func TestDecodeEndsTooEarly(t *testing.T) {
	for n := 1; n <= long; n++ {
		for ahead := range 9 { // it begins at each bit
			for _, s := range []int{n - 1, n} {
				l, symbols := stairs(n), append(same(0, ahead), s)
				b, _ := plainEncode(l, symbols)
				areSymbols(t, l, b, ahead+1, symbols, ok)
				for k := range b {
					areSymbols(t, l, b[:k], ahead+1, nil, errShort)
					areSymbols(t, l, b[:k], most, nil, errShort)
					areSymbols(t, l, b[:k], min(ahead, 8*k), same(0, min(ahead, 8*k)), ok)
				}
			}
		}
	}
	for _, l := range good() {
		for i, s := range known(l) {
			if i%7 > 0 && i > 2 {
				continue
			}
			b, _ := plainEncode(l, same(s, 20))
			have := 8 * len(b) / l[s]
			for k := range b {
				isPlain(t, l, b[:k], 20)
				isPlain(t, l, b[:k], 8*k/l[s])
				isPlain(t, l, b[:k], 8*k/l[s]+1)
			}
			isPlain(t, l, b, have)
			isPlain(t, l, b, have+1)
		}
	}
}

// TestDecodeNoCode: bits that no code begins with, or is what they begin with.
func TestDecodeNoCode(t *testing.T) {
	ones := bytes.Repeat([]byte{255}, 30)
	for n := 2; n <= long; n++ {
		for k := range 31 { // also where fewer than MaxLong bits are left
			want := errNone
			if k == 0 {
				want = errShort
			}
			areSymbols(t, []int{n}, ones[:k], 1, nil, want)
			areSymbols(t, []int{n, 0, n}, ones[:k], 1, nil, want)
			areSymbols(t, []int{n}, ones[:k], most, nil, want)
		}
	}
	for ahead := range 40 { // behind some symbols
		b := append(make([]byte, ahead), ones...)
		for less := range 30 {
			areSymbols(t, []int{8, 8}, b[:len(b)-less], ahead, same(0, ahead), ok)
			areSymbols(t, []int{8, 8}, b[:len(b)-less], ahead+1, nil, errNone)
			areSymbols(t, []int{8, 8}, b[:len(b)-less], most, nil, errNone)
		}
		areSymbols(t, []int{8, 8}, b[:ahead], ahead+1, nil, errShort)
	}
}

// TestNoneOrShort: where both may be said.
func TestNoneOrShort(t *testing.T) {
	areSymbols(t, []int{9}, []byte{0}, 1, nil, errShort)
	areSymbols(t, []int{9}, []byte{1}, 1, nil, errNone)
	areSymbols(t, []int{9, 9, 9}, []byte{1}, 1, nil, errShort) // 000000010 begins with it
	areSymbols(t, []int{9, 9}, []byte{1}, 1, nil, errNone)     // 000000001 does not
	areSymbols(t, []int{2, 9}, []byte{0x40}, 1, nil, errShort) // 010000000
	areSymbols(t, []int{2, 9}, []byte{0x41}, 1, nil, errNone)
	areSymbols(t, []int{2, 9}, []byte{0x08}, 3, nil, errNone)  // 00, 00, and 10 00
	areSymbols(t, []int{2, 9}, []byte{0x04}, 3, nil, errShort) // 00, 00, and 01 00
	areSymbols(t, []int{2, 9}, []byte{0x05}, 3, nil, errNone)  // 00, 00, and 01 01
	areSymbols(t, []int{2, 9}, []byte{0x01}, 4, nil, errShort) // 00, 00, 00, and 01
	areSymbols(t, []int{2, 9}, []byte{0x02}, 4, nil, errNone)  // 00, 00, 00, and 10
	areSymbols(t, []int{2, 9}, []byte{0x00}, 5, nil, errShort) // nothing is left
	areSymbols(t, []int{long}, []byte{0, 0, 0, 0}, 1, nil, errShort)
	areSymbols(t, []int{long}, []byte{0, 0, 0, 1}, 1, nil, errNone)
	areSymbols(t, []int{long}, []byte{0, 0, 0, 0, 1}, 1, nil, errNone)
	areSymbols(t, []int{long}, []byte{0, 0, 0, 0, 0}, 2, nil, errShort)
	areSymbols(t, []int{long}, []byte{0, 0, 0, 0, 0, 0}, 2, nil, errShort)
	areSymbols(t, []int{long}, []byte{0, 0, 0, 0, 0, 2}, 2, nil, errNone)
	areSymbols(t, []int{1, long}, []byte{128, 0, 0, 0}, 1, nil, errShort)
	areSymbols(t, []int{1, long}, []byte{192, 0, 0, 0}, 1, nil, errNone)
	areSymbols(t, []int{1, long}, []byte{128, 0, 0, 0, 1}, 1, nil, errNone)
	areSymbols(t, []int{1, long}, []byte{64, 0, 0, 0, 0}, 2, nil, errShort) // 39 bits are left
	areSymbols(t, []int{1, long}, []byte{64, 0, 0, 0, 1}, 2, nil, errNone)
	areSymbols(t, []int{1, long}, []byte{64, 0, 0, 0, 0, 128}, 2, nil, errNone) // 40 and more are left
	areSymbols(t, []int{1, long}, []byte{64, 0, 0, 0, 0, 0}, 2, []int{0, 1}, ok)
	areSymbols(t, []int{1, long}, []byte{64, 0, 0, 0, 0, 127}, 2, []int{0, 1}, ok)
}

// TestDecodeAtMaxLong: bits of which just the last one is another.
func TestDecodeAtMaxLong(t *testing.T) {
	l := stairs(long)[:long] // all ones are no code
	for n := range 12 {
		ones := bytes.Repeat([]byte{255}, n)
		want := errShort
		if n >= 5 {
			want = errNone
		}
		areSymbols(t, l, ones, 1, nil, want)
		areSymbols(t, l, append([]byte{0}, ones...), 9, nil, want)
		for ahead := range 8 {
			b := plainBytes(strings.Repeat("0", ahead) + strings.Repeat("1", 8*n))
			s, code := huff.Decode(l, b, ahead)
			if code != ok || !slices.Equal(s, same(0, ahead)) {
				t.Fatalf("%v: %v %d", b, s, code)
			}
			isPlain(t, l, b, ahead+1)
		}
	}
}

func TestModelAllBytes(t *testing.T) {
	for _, l := range good() {
		if len(l) > 8 {
			continue
		}
		for x := range 1 << 8 {
			for _, count := range []int{1, 2, 3, 4, 8, 9} {
				isPlain(t, l, []byte{byte(x)}, count)
			}
		}
		for x := 0; x < 1<<16; x += 7 {
			isPlain(t, l, []byte{byte(x >> 8), byte(x)}, 1+x%17)
		}
	}
}

func TestModelAllShortLengths(t *testing.T) {
	for n := range 5 {
		for i, l := range lists(n, 6) {
			if !plainMay(l) {
				continue
			}
			for x := i % 3; x < 1<<8; x += 3 {
				for count := 1; count < 9; count += 1 + i%4 {
					isPlain(t, l, []byte{byte(x)}, count)
				}
			}
		}
	}
}

func TestModelManyBytes(t *testing.T) {
	for seed := range uint32(1500) {
		roll := dice(seed)
		l := someLengths(roll)
		b := make([]byte, roll(60))
		for i := range b {
			b[i] = byte([]int{roll(256), 255, 0, roll(256)}[roll(4)])
		}
		for range 6 {
			isPlain(t, l, b, roll(8*len(b)+2))
			isPlain(t, l, b, roll(12))
		}
	}
}
