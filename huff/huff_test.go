package huff_test

import (
	"fmt"
	"math"
	"slices"
	"testing"

	"packthread/api"
	"packthread/huff"
)

// The limits and the numbers of errors, written out: they must not move with the program.
const (
	many  = 64      // symbols
	long  = 40      // bits of a code
	times = 1048576 // times that a symbol is counted
	most  = 4096    // symbols that are decoded

	ok       = api.Errno(0)
	errSize  = api.Errno(1)
	errRange = api.Errno(2)
	errForm  = api.Errno(4)
	errShort = api.Errno(5)
	errNone  = api.Errno(7)
)

// far: numbers that are far out.
func far() []int {
	return []int{-1, -2, -40, -64, -1 << 31, -1<<31 - 1, -1 << 32, 1 - 1<<32, 64 - 1<<32, math.MinInt, math.MinInt + 1, math.MinInt + 3, 1 << 21, 1<<31 - 1, 1 << 31, 1 << 32, 1<<32 + 1, 1<<32 + 3, 1<<40 + 2, 1 << 62, math.MaxInt, math.MaxInt - 1}
}

// short: numbers as a text; of many the first ones and how many there are.
func short(l []int) string {
	if len(l) > 70 {
		return fmt.Sprint(l[:12], "..", len(l))
	}
	return fmt.Sprint(l)
}

// shortBytes: bytes as a text; of many the first ones and how many there are.
func shortBytes(b []byte) string {
	if len(b) > 70 {
		return fmt.Sprint(b[:12], "..", len(b))
	}
	return fmt.Sprint(b)
}

// same: n times the same number.
func same(x, n int) []int {
	l := make([]int, n)
	for i := range l {
		l[i] = x
	}
	return l
}

// with: a list in which another number stands at a place.
func with(l []int, at, x int) []int {
	l = slices.Clone(l)
	l[at] = x
	return l
}

// stairs: the lengths 1, 2 and so on, and at the end the last one once more: no bits are left over.
func stairs(n int) []int {
	var l []int
	for i := 1; i <= n; i++ {
		l = append(l, i)
	}
	return append(l, n)
}

// turned: from behind.
func turned(l []int) []int {
	l = slices.Clone(l)
	slices.Reverse(l)
	return l
}

// good: lengths of all sorts that may be.
func good() [][]int {
	return [][]int{
		nil, {0}, {0, 0, 0}, same(0, many),
		{1}, {2}, {long}, {0, 1}, {0, 0, 3, 0}, append(same(0, many-1), 1), append(same(0, many-1), long),
		{1, 1}, {1, 2}, {2, 1}, {2, 2}, {1, long}, {long, 1}, {long, long}, {1, 0, 1}, {1, 8}, {8, 9, 7}, {0, 8, 0, 8},
		{1, 3, 0, 3, 2}, {3, 3, 3, 3, 3, 3, 3}, {3, 1, 2, 3}, {2, 3, 3, 2, 3, 3}, {4, 0, 2, 0, 4, 1}, {9, 1, 16, 17, 2}, {12, 2, 12, 2, 2},
		stairs(5), turned(stairs(5)), stairs(9), stairs(17), stairs(long), turned(stairs(long)), stairs(long)[:long], stairs(long)[1:],
		same(6, many), same(7, many), same(8, many), same(9, many), same(long, many), same(long, 3), same(33, many), same(5, 32), same(5, 31),
		append(stairs(long - 1)[:long-1], same(long, 2)...), append(same(long, 2), same(0, many-2)...), append(same(2, 3), same(8, 61)...), append(same(8, 61), same(2, 3)...), append(same(0, 30), append(same(4, 15), same(39, 19)...)...),
	}
}

// odd: lengths of all sorts that may not be.
func odd() [][]int {
	l := [][]int{
		{-1}, {long + 1}, {0, -1}, {0, long + 1}, {1, -1}, {1, 1, -1}, {-1, -1}, {long + 1, 0, 0}, {-1, long + 1},
		{1, 1, 1}, {1, 1, long}, {long, 1, 1}, {1, 0, 1, 0, long}, {1, 2, 2, long}, {2, 2, 2, 2, 2}, {1, 2, 3, 3, 3}, {1, 2, 1},
		append(stairs(long), long), append(turned(stairs(long)), long), append(same(1, 2), same(long, many-2)...), same(1, many), same(2, many), same(5, many), same(5, 33), same(5, many-31), append(same(6, many-1), 5), append(same(6, 62), 1, 1),
		same(0, many+1), same(7, many+1), same(long, many+1), same(1, many+1), same(-1, many+1), append(same(0, many), 1), append(same(0, many), long+1), same(0, 1000), same(long, 1<<16), same(1, 1<<20),
	}
	for _, x := range far() {
		l = append(l, []int{x}, []int{1, x}, []int{x, 0, 0}, []int{x, x}, []int{x, -x, 3})
	}
	return l
}

// TestExample: of all four.
func TestExample(t *testing.T) {
	l, code := huff.Lengths([]int{5, 1, 0, 1, 2})
	if !slices.Equal(l, []int{1, 3, 0, 3, 2}) || code != ok {
		t.Fatalf("Lengths: %v %d", l, code)
	}
	c, code := huff.Codes(l)
	if !slices.Equal(c, []int{0, 6, 0, 7, 2}) || code != ok {
		t.Fatalf("Codes: %v %d", c, code)
	}
	b, code := huff.Encode(l, []int{0, 4, 1, 3, 0})
	if !slices.Equal(b, []byte{91, 128}) || code != ok {
		t.Fatalf("Encode: %v %d", b, code)
	}
	s, code := huff.Decode(l, b, 5)
	if !slices.Equal(s, []int{0, 4, 1, 3, 0}) || code != ok {
		t.Fatalf("Decode: %v %d", s, code)
	}
}

// TestWhatMayBe: all four agree about it (P19.1).
func TestWhatMayBe(t *testing.T) {
	for _, l := range good() {
		if !plainMay(l) {
			t.Fatalf("%s: the test is wrong", short(l))
		}
		_, a := huff.Codes(l)
		_, b := huff.Encode(l, nil)
		_, c := huff.Decode(l, nil, 0)
		if a != ok || b != ok || c != ok {
			t.Fatalf("%s may be: %d %d %d", short(l), a, b, c)
		}
	}
	for _, l := range odd() {
		if plainMay(l) {
			t.Fatalf("%s: the test is wrong", short(l))
		}
		isOdd(t, l)
	}
}

// isOdd: of these lengths nothing is told, whatever else is wrong.
func isOdd(t *testing.T, l []int) {
	t.Helper()
	if c, code := huff.Codes(l); len(c) != 0 || code != errForm {
		t.Fatalf("Codes(%s): %s %d", short(l), short(c), code)
	}
	for _, symbols := range [][]int{nil, {0}, {1}, {-1}, {len(l)}, {0, 0, 0}, {math.MaxInt}} {
		if b, code := huff.Encode(l, symbols); len(b) != 0 || code != errForm {
			t.Fatalf("Encode(%s, %v): %s %d", short(l), symbols, shortBytes(b), code)
		}
	}
	for _, b := range [][]byte{nil, {0}, {255}, {0, 0, 0, 0, 0, 0}, {255, 255, 255, 255, 255, 255}} {
		for _, count := range []int{0, 1, 2, most, -1, most + 1, math.MinInt, math.MaxInt} {
			if s, code := huff.Decode(l, b, count); len(s) != 0 || code != errForm {
				t.Fatalf("Decode(%s, %v, %d): %s %d", short(l), b, count, short(s), code)
			}
		}
	}
}

// TestSpareRoomDoesNotCount: only what a list has is looked at.
func TestSpareRoomDoesNotCount(t *testing.T) {
	room := append([]int{2, 1, 2}, same(-7, 200)...)[:3]
	isLeast(t, room)
	if c, code := huff.Codes(room); !slices.Equal(c, []int{2, 0, 3}) || code != ok {
		t.Fatalf("Codes: %v %d", c, code)
	}
	if b, code := huff.Encode(room, append([]int{0}, same(-7, 9)...)[:1]); !slices.Equal(b, []byte{128}) || code != ok {
		t.Fatalf("Encode: %v %d", b, code)
	}
	if b, code := huff.Encode(room, []int{3}); len(b) != 0 || code != errNone {
		t.Fatalf("Encode: %v %d", b, code)
	}
	bytes := []byte{128, 0, 0}[:1]
	if s, code := huff.Decode(room, bytes, 7); !slices.Equal(s, []int{0, 1, 1, 1, 1, 1, 1}) || code != ok {
		t.Fatalf("Decode: %v %d", s, code)
	}
	if s, code := huff.Decode(room, bytes, 8); len(s) != 0 || code != errShort {
		t.Fatalf("Decode: %v %d", s, code)
	}
}
