package inet_test

import (
	"bytes"
	"math"
	"sync"
	"testing"

	"packthread/api"
	"packthread/inet"
)

// The greatest number of two bytes, written out: it must not move with the program.
const top = 65535

func isFold(t *testing.T, b []byte, want int) {
	if got := inet.Fold(b); got != want {
		t.Helper()
		t.Fatalf("Fold(%s): %#x, want %#x", short(b), got, want)
	}
	if got := inet.Sum(b); got != top-want {
		t.Helper()
		t.Fatalf("Sum(%s): %#x, want %#x", short(b), got, top-want)
	}
}

func isJoin(t *testing.T, a, b int, odd bool, want int, code api.Errno) {
	if got, e := inet.Join(a, b, odd); got != want || e != code {
		t.Helper()
		t.Fatalf("Join(%d, %d, %v): %d %d, want %d %d", a, b, odd, got, e, want, code)
	}
}

func isUpdate(t *testing.T, sum, was, is, want int, code api.Errno) {
	if got, e := inet.Update(sum, was, is); got != want || e != code {
		t.Helper()
		t.Fatalf("Update(%d, %d, %d): %d %d, want %d %d", sum, was, is, got, e, want, code)
	}
}

// short: the first bytes of b, hexadecimal: a long list tells no more.
func short(b []byte) string {
	const digits = "0123456789abcdef"
	s := ""
	for i, v := range b {
		if i == 24 {
			return s + ".."
		}
		s += string(digits[v>>4]) + string(digits[v&15])
	}
	return s
}

// residue: what n folds to, told by a remainder: folding takes away 65535 each time, and comes to 0 only from 0.
func residue(n int) int {
	if n == 0 {
		return 0
	}
	return (n-1)%top + 1
}

// foldOf: the Fold of b, number by number, with the byte 0 really laid behind an odd last one.
func foldOf(b []byte) int {
	l := append([]byte{}, b...)
	if len(l)%2 == 1 {
		l = append(l, 0)
	}
	sum := 0
	for ; len(l) > 0; l = l[2:] {
		sum += 256*int(l[0]) + int(l[1])
	}
	return residue(sum)
}

// bytesOf: n bytes that look like chance, the same ones each time.
func bytesOf(n, seed int) []byte {
	b := make([]byte, n)
	x := uint32(seed)*2654435761 + 1
	for i := range b {
		x = x*1664525 + 1013904223
		b[i] = byte(x >> 24)
	}
	return b
}

// samples: lists of bytes of all lengths up to 70, as they come, all 0, all 255, and one byte alone not 0.
func samples() [][]byte {
	var l [][]byte
	for n := 0; n <= 70; n++ {
		l = append(l, bytesOf(n, n), bytesOf(n, n+1000), make([]byte, n), bytes.Repeat([]byte{255}, n))
		if n > 0 {
			first, last := make([]byte, n), make([]byte, n)
			first[0], last[n-1] = 1, 1
			l = append(l, first, last)
		}
	}
	return l
}

// numbers: numbers of two bytes, at the bounds and between.
func numbers() []int {
	return []int{0, 1, 2, 127, 128, 254, 255, 256, 257, 0x1ff, 0x7fff, 0x8000, 0x8001, 0x00ff, 0xff00, 0xff01, 0xfefe, 0xfeff, 0x1234, 0xabcd, 65533, 65534, top}
}

// noNumbers: numbers that two bytes do not make, some of which look like one when bits are cut off.
func noNumbers() []int {
	return []int{
		-1, -2, -255, -256, -32768, -top, -top - 1, -top - 2,
		top + 1, top + 2, top + 256, 2 * top, 2*top + 1, 2*top + 2, 3 * top,
		1<<31 - 1, 1 << 31, 1<<31 + 7, 1<<32 - 1, 1 << 32, 1<<32 + 7, -1 << 31, -1<<31 - 1, -1 << 32, -1<<32 + 7,
		1<<48 + 7, 1 << 62, 1<<62 + 7, -1 << 62, -1<<62 + 7,
		math.MaxInt64, math.MaxInt64 - 1, math.MaxInt64 - top, math.MinInt64, math.MinInt64 + 1, math.MinInt64 + top,
	}
}

// P2.1: Fold, Sum.

func TestFoldOfNoBytes(t *testing.T) {
	isFold(t, nil, 0)
	isFold(t, []byte{}, 0)
	isFold(t, []byte{9, 9, 9}[:0], 0)
}

func TestFoldOfOneByteAndTwo(t *testing.T) {
	for high := 0; high < 256; high++ {
		isFold(t, []byte{byte(high)}, 256*high)
		for low := 0; low < 256; low++ {
			isFold(t, []byte{byte(high), byte(low)}, 256*high+low)
		}
	}
}

func TestFoldOfAnOddNumberOfBytes(t *testing.T) {
	isFold(t, []byte{1, 2, 3}, 0x0402)
	isFold(t, []byte{0, 0, 1}, 0x0100)
	isFold(t, []byte{255, 255, 255}, 0xff00)
	isFold(t, []byte{0xff, 0x01, 0x01}, 0x0002)
	isFold(t, []byte{0, 0, 0, 0, 255}, 0xff00)
	for _, b := range samples() {
		if len(b)%2 == 1 {
			isFold(t, b, inet.Fold(append(b[:len(b):len(b)], 0)))
		}
	}
}

func TestFoldWhatLiesBehindIsNotRead(t *testing.T) {
	b := []byte{1, 2, 3, 200, 201}
	isFold(t, b[:3], 0x0402)
	isFold(t, b[:1], 0x0100)
	isFold(t, b[1:4], 0x0203+0xc800)
}

func TestFoldIsNothingOnlyOfNothing(t *testing.T) {
	for n := 0; n <= 100; n++ {
		isFold(t, make([]byte, n), 0)
		for at := 0; at < n; at++ {
			b := make([]byte, n)
			b[at] = 7
			want := 7
			if at%2 == 0 {
				want = 7 * 256
			}
			isFold(t, b, want)
		}
	}
	isFold(t, []byte{255, 255}, 65535)
	isFold(t, []byte{255, 254, 0, 1}, 65535)
	isFold(t, []byte{255, 255, 255, 255}, 65535)
	isFold(t, bytes.Repeat([]byte{255}, 5000), 65535)
}

func TestFoldOnce(t *testing.T) {
	isFold(t, []byte{255, 255, 0, 1}, 1)
	isFold(t, []byte{255, 255, 0, 0}, 65535)
	isFold(t, []byte{128, 0, 128, 0}, 1)
	isFold(t, []byte{0, 1, 242, 3, 244, 245, 246, 247}, 0xddf2)
	isFold(t, []byte{255, 255, 255, 254}, 65534)
}

func TestFoldMoreThanOnce(t *testing.T) {
	// 0x1ffff comes to 0x10000, and that to 1.
	isFold(t, []byte{255, 255, 255, 255, 0, 1}, 1)
	isFold(t, []byte{0, 1, 255, 255, 255, 255}, 1)
	// 0x2fffe comes to 0x10000, and that to 1; 0x2ffff to 0x10001, and that to 2.
	isFold(t, []byte{255, 255, 255, 255, 255, 255, 0, 1}, 1)
	isFold(t, []byte{255, 255, 255, 255, 255, 255, 0, 2}, 2)
}

func TestFoldThreeTimesAndBeyond32Bits(t *testing.T) {
	// 65538 times 0xffff and 1 are 0x10000ffff: that comes to 0x1ffff, that to 0x10000, and that to 1.
	b := append(bytes.Repeat([]byte{255, 255}, 65538), 0, 1)
	isFold(t, b, 1)
	isFold(t, b[:len(b)-2], 65535)
	b[len(b)-1] = 77
	isFold(t, b, 77)
	isFold(t, append(b, 3), 77+0x300)
}

func TestFoldOfManyBytes(t *testing.T) {
	for _, b := range samples() {
		isFold(t, b, foldOf(b))
	}
	for _, n := range []int{255, 256, 257, 4095, 4096, 4097, 100000, 1000001} {
		b := bytesOf(n, n)
		isFold(t, b, foldOf(b))
	}
}

func TestOrderOfNumbersDoesNotMatter(t *testing.T) {
	for seed := 0; seed < 20; seed++ {
		b := bytesOf(12, seed)
		want := foldOf(b)
		for from := 0; from < len(b); from += 2 {
			for to := 0; to < len(b); to += 2 {
				c := append([]byte{}, b...)
				c[from], c[from+1], c[to], c[to+1] = c[to], c[to+1], c[from], c[from+1]
				isFold(t, c, want)
			}
		}
	}
}

func TestHalvesAreNotTheSame(t *testing.T) {
	if inet.Fold([]byte{1, 2}) == inet.Fold([]byte{2, 1}) {
		t.Fatal("the first byte is the higher half")
	}
}

func TestChangedNumberIsSeen(t *testing.T) {
	b := bytesOf(9, 3)
	first := inet.Sum(b)
	for at := 0; at+1 < len(b); at += 2 {
		was := 256*int(b[at]) + int(b[at+1])
		c := append([]byte{}, b...)
		for is := 0; is <= top; is++ {
			c[at], c[at+1] = byte(is>>8), byte(is)
			same := is == was || is == 0 && was == top || is == top && was == 0
			if got := inet.Sum(c); (got == first) != same {
				t.Fatalf("%#x for %#x at %d: Sum %#x, first %#x", is, was, at, got, first)
			}
		}
	}
}

func TestNothingForAllOnesIsNotSeen(t *testing.T) {
	ones, none := []byte{7, 7, 255, 255, 9}, []byte{7, 7, 0, 0, 9}
	isFold(t, ones, 0x0707+0x0900)
	isFold(t, none, 0x0707+0x0900)
	// but where all else is 0, it is
	isFold(t, []byte{0, 0, 255, 255}, 65535)
	isFold(t, []byte{0, 0, 0, 0}, 0)
}

// P2.2: Join.

func TestJoinIsTheFoldOfBoth(t *testing.T) {
	for _, b := range samples() {
		want := foldOf(b)
		for cut := 0; cut <= len(b); cut++ {
			isJoin(t, inet.Fold(b[:cut]), inet.Fold(b[cut:]), cut%2 == 1, want, api.OK)
		}
	}
}

func TestJoinOfThree(t *testing.T) {
	b := bytesOf(31, 5)
	for one := 0; one <= len(b); one++ {
		for two := one; two <= len(b); two++ {
			first, _ := inet.Join(inet.Fold(b[:one]), inet.Fold(b[one:two]), one%2 == 1)
			isJoin(t, first, inet.Fold(b[two:]), two%2 == 1, foldOf(b), api.OK)
		}
	}
}

func TestJoinEven(t *testing.T) {
	isJoin(t, 0x0102, 0x0300, false, 0x0402, api.OK)
	isJoin(t, 0, 0, false, 0, api.OK)
	isJoin(t, 0, top, false, top, api.OK)
	isJoin(t, top, 0, false, top, api.OK)
	isJoin(t, top, top, false, top, api.OK)
	isJoin(t, top, 1, false, 1, api.OK)
	isJoin(t, 1, top, false, 1, api.OK)
	isJoin(t, 0x8000, 0x8000, false, 1, api.OK)
	isJoin(t, 0x8000, 0x7fff, false, top, api.OK)
}

func TestJoinOdd(t *testing.T) {
	isJoin(t, 0x0100, 0x0203, true, 0x0402, api.OK)
	isJoin(t, 0, 0, true, 0, api.OK)
	isJoin(t, 0, top, true, top, api.OK)
	isJoin(t, top, 0, true, top, api.OK)
	isJoin(t, top, top, true, top, api.OK)
	isJoin(t, 0, 0x0001, true, 0x0100, api.OK)
	isJoin(t, 0, 0xff00, true, 0x00ff, api.OK)
	isJoin(t, 0x0001, 0, true, 0x0001, api.OK) // b alone is changed, not a
	isJoin(t, 0x8000, 0x0080, true, 1, api.OK)
	isJoin(t, top, 0x0100, true, 1, api.OK)
}

func TestJoinOfAllNumbers(t *testing.T) {
	for _, a := range numbers() {
		for b := 0; b <= top; b++ {
			isJoin(t, a, b, false, residue(a+b), api.OK)
			isJoin(t, a, b, true, residue(a+b%256*256+b/256), api.OK)
		}
	}
}

func TestJoinOfNoSuchNumber(t *testing.T) {
	for _, odd := range []bool{false, true} {
		for _, bad := range noNumbers() {
			for _, good := range numbers() {
				isJoin(t, bad, good, odd, 0, api.ErrRange)
				isJoin(t, good, bad, odd, 0, api.ErrRange)
			}
			for _, other := range noNumbers() {
				isJoin(t, bad, other, odd, 0, api.ErrRange)
			}
		}
	}
}

// P2.3: Update.

// seen: what Update says of bytes: their Sum; but that all of them are 0 now it can't know, and takes them for 65535.
func seen(b []byte) int {
	if fold := foldOf(b); fold != 0 {
		return top - fold
	}
	return 0
}

func TestUpdateIsTheSumOfWhatIs(t *testing.T) {
	for _, b := range samples() {
		for at := 0; at+1 < len(b); at += 2 {
			was := 256*int(b[at]) + int(b[at+1])
			c := append([]byte{}, b...)
			for _, is := range append(numbers(), was) {
				c[at], c[at+1] = byte(is>>8), byte(is)
				isUpdate(t, inet.Sum(b), was, is, seen(c), api.OK)
			}
		}
	}
}

func TestUpdateOfAllNumbers(t *testing.T) {
	for _, sum := range numbers() {
		for _, was := range numbers() {
			for is := 0; is <= top; is++ {
				isUpdate(t, sum, was, is, top-residue(2*top-sum-was+is), api.OK)
			}
		}
	}
}

func TestUpdateOfNothingAndAllOnes(t *testing.T) {
	isUpdate(t, 0, 0, 0, 0, api.OK)
	isUpdate(t, 0, 0, top, 0, api.OK)
	isUpdate(t, 0, top, 0, 0, api.OK)
	isUpdate(t, 0, top, top, 0, api.OK)
	isUpdate(t, top, 0, 0, 0, api.OK)
	isUpdate(t, top, 0, top, 0, api.OK)
	isUpdate(t, top, top, 0, top, api.OK) // all three numbers are 0
	isUpdate(t, top, top, top, 0, api.OK)
	isUpdate(t, top, 0, 1, 65534, api.OK)
	isUpdate(t, 65534, 1, 0, 0, api.OK)
	isUpdate(t, 65534, 0, top, 65534, api.OK)
	isUpdate(t, 65534, top, 0, 65534, api.OK)
}

func TestUpdateAndBack(t *testing.T) {
	b := []byte{1, 2, 3, 4}
	isUpdate(t, inet.Sum(b), 0x0102, 0x0909, inet.Sum([]byte{9, 9, 3, 4}), api.OK)
	isUpdate(t, inet.Sum([]byte{9, 9, 3, 4}), 0x0909, 0x0102, inet.Sum(b), api.OK)
	isUpdate(t, inet.Sum(b), 0x0304, 0, inet.Sum([]byte{1, 2, 0, 0}), api.OK)
	isUpdate(t, inet.Sum(b), 0x0304, top, inet.Sum([]byte{1, 2, 255, 255}), api.OK)
}

func TestUpdateOfNoSuchNumber(t *testing.T) {
	for _, bad := range noNumbers() {
		for _, x := range append(numbers(), noNumbers()...) {
			for _, y := range append(numbers(), noNumbers()...) {
				isUpdate(t, bad, x, y, 0, api.ErrRange)
				isUpdate(t, x, bad, y, 0, api.ErrRange)
				isUpdate(t, x, y, bad, 0, api.ErrRange)
			}
		}
	}
}

// What holds everywhere.

func TestBytesHandedInAreNotChanged(t *testing.T) {
	for n := 0; n <= 20; n++ {
		room := bytesOf(n+8, n)
		kept := append([]byte{}, room...)
		inet.Fold(room[:n])
		inet.Sum(room[:n])
		if !bytes.Equal(room, kept) {
			t.Fatalf("%d bytes: %s, were %s", n, short(room), short(kept))
		}
	}
}

type answers struct {
	fold, sum, even, odd, update int
	codes                        [3]api.Errno
}

func ask(a, b int) (r answers) {
	l := []byte{byte(a), byte(b), byte(a >> 8)}
	r.fold, r.sum = inet.Fold(l), inet.Sum(l)
	r.even, r.codes[0] = inet.Join(a, b, false)
	r.odd, r.codes[1] = inet.Join(a, b, true)
	r.update, r.codes[2] = inet.Update(7, a, b)
	return r
}

func TestAnswersHangOnArgumentsAlone(t *testing.T) {
	all := append(numbers(), noNumbers()...)
	first := map[[2]int]answers{}
	for _, a := range all {
		for _, b := range all {
			first[[2]int{a, b}] = ask(a, b)
		}
	}
	var hands sync.WaitGroup
	for range 4 {
		hands.Go(func() {
			for pair, want := range first {
				if got := ask(pair[0], pair[1]); got != want {
					t.Errorf("%v: %v, first %v", pair, got, want)
				}
			}
		})
	}
	hands.Wait()
}
