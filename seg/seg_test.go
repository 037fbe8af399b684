package seg_test

import (
	"bytes"
	"fmt"
	"math"
	"slices"
	"sync"
	"testing"

	"packthread/api"
	"packthread/seg"
)

// The limits, written out: they must not move with the program.
const (
	last  = 65535 // the last serial number, and the greatest window
	sacks = 3     // Sacks at most
	most  = 64    // bytes of Data at most
	head  = 10    // bytes ahead of the Sacks
)

func isEncode(t *testing.T, s api.Segment, want []byte, code api.Errno) {
	if b, e := seg.Encode(s); !bytes.Equal(b, want) || e != code {
		t.Helper()
		t.Fatalf("Encode(%v): %v %d, want %v %d", s, b, e, want, code)
	}
}

func isRefused(t *testing.T, s api.Segment, code api.Errno) {
	t.Helper()
	isEncode(t, s, nil, code)
}

func isDecode(t *testing.T, b []byte, want api.Segment, code api.Errno) {
	if s, e := seg.Decode(b); !same(s, want) || e != code {
		t.Helper()
		t.Fatalf("Decode(%v): %v %d, want %v %d", short(b), s, e, want, code)
	}
}

func isNone(t *testing.T, b []byte, code api.Errno) {
	t.Helper()
	isDecode(t, b, api.Segment{}, code)
}

// isBoth: s comes to b, and b to s.
func isBoth(t *testing.T, s api.Segment, b []byte) {
	t.Helper()
	isEncode(t, s, b, api.OK)
	isDecode(t, b, s, api.OK)
}

// same: whether two segments are; lists without elements may be nil or not.
func same(a, b api.Segment) bool {
	return a.Seq == b.Seq && a.Ack == b.Ack && a.Window == b.Window &&
		a.Syn == b.Syn && a.Fin == b.Fin && a.Rst == b.Rst && a.Acks == b.Acks &&
		slices.Equal(a.Sacks, b.Sacks) && bytes.Equal(a.Data, b.Data)
}

// short: of many bytes the first ones.
func short(b []byte) string {
	if len(b) > 120 {
		return fmt.Sprint(b[:120]) + ".."
	}
	return fmt.Sprint(b)
}

// summed: b with the sum that it must have. It goes another way than the program: folding takes away 65535 each time, and comes to 0 only from 0.
func summed(b []byte) []byte {
	b = slices.Clone(b)
	b[8], b[9] = 0, 0
	total := 0
	for i, v := range b {
		if i%2 == 0 {
			total += 256 * int(v)
		} else {
			total += int(v)
		}
	}
	if total != 0 {
		total = (total-1)%65535 + 1
	}
	b[8], b[9] = byte((65535-total)/256), byte((65535-total)%256)
	return b
}

// laid: the bytes that a segment must come to, place by place.
func laid(s api.Segment) []byte {
	b := make([]byte, head+4*len(s.Sacks)+len(s.Data))
	at := func(i, n int) { b[i], b[i+1] = byte(n/256), byte(n%256) }
	at(0, s.Seq)
	at(2, s.Ack)
	at(4, s.Window)
	for _, f := range []struct {
		on  bool
		bit byte
	}{{s.Syn, 1}, {s.Fin, 2}, {s.Rst, 4}, {s.Acks, 8}} {
		if f.on {
			b[6] += f.bit
		}
	}
	b[7] = byte(len(s.Sacks))
	for i, r := range s.Sacks {
		at(head+4*i, r.From)
		at(head+4*i+2, r.To)
	}
	copy(b[head+4*len(s.Sacks):], s.Data)
	return summed(b)
}

// ranges: of two and two numbers.
func ranges(l ...int) []api.Range {
	var out []api.Range
	for ; len(l) > 0; l = l[2:] {
		out = append(out, api.Range{From: l[0], To: l[1]})
	}
	return out
}

// data: n bytes that look like chance, the same ones each time.
func data(n, seed int) []byte {
	b := make([]byte, n)
	x := uint32(seed)*2654435761 + 1
	for i := range b {
		x = x*1664525 + 1013904223
		b[i] = byte(x >> 24)
	}
	return b
}

// flagged: a segment with the flags of the four bits.
func flagged(bits int) api.Segment {
	return api.Segment{Syn: bits&1 > 0, Fin: bits&2 > 0, Rst: bits&4 > 0, Acks: bits&8 > 0}
}

// numbers: serial numbers, at the bounds and between.
func numbers() []int {
	return []int{0, 1, 2, 127, 128, 255, 256, 257, 0x0102, 0x1234, 0x7fff, 0x8000, 0xfeff, 0xff00, last - 1, last}
}

// noNumbers: what is no serial number and no window, some of which look like one when bits are cut off.
func noNumbers() []int {
	return []int{
		-1, -2, -255, -256, -32768, -last, -last - 1, -last - 2, last + 1, last + 2, last + 256, 2*last + 1, 2*last + 2,
		1<<31 - 1, 1 << 31, 1<<31 + 7, 1<<32 - 1, 1 << 32, 1<<32 + 7, -1 << 31, -1 << 32, -1<<32 + 7, 1<<48 + 7, 1 << 62, -1 << 62,
		math.MaxInt64, math.MaxInt64 - 1, math.MinInt64, math.MinInt64 + 1,
	}
}

// good: segments that may be, of all flags, numbers of Sacks, and some lengths of Data.
func good() []api.Segment {
	var l []api.Segment
	seed := 0
	for bits := range 16 {
		for n := range sacks + 1 {
			for _, length := range []int{0, 1, 2, 3, 7, 8, most - 1, most} {
				s := flagged(bits)
				s.Seq, s.Data = seed*31%(last+1), data(length, seed)
				if s.Acks {
					s.Ack, s.Window = seed*977%(last+1), seed*5003%(last+1)
					for i := range n {
						s.Sacks = append(s.Sacks, api.Range{From: (seed + i) * 7001 % (last + 1), To: (seed*3 + i) * 811 % (last + 1)})
					}
				}
				l = append(l, s)
				seed++
			}
		}
	}
	return l
}

// whole: a segment that has all there may be.
func whole() api.Segment {
	return api.Segment{Seq: 0x0102, Ack: 0x0304, Window: 0x0506, Syn: true, Fin: true, Rst: true, Acks: true, Sacks: ranges(7, 8, 9, 10, 11, 12), Data: data(most, 5)}
}

// P4.1: Encode.

func TestBytesOfSegments(t *testing.T) {
	isBoth(t, api.Segment{Seq: 258, Acks: true, Ack: 3, Window: 9, Fin: true, Sacks: ranges(4, 5), Data: []byte{7}}, []byte{1, 2, 0, 3, 0, 9, 10, 1, 237, 231, 0, 4, 0, 5, 7})
	isBoth(t, api.Segment{Seq: 1}, []byte{0, 1, 0, 0, 0, 0, 0, 0, 255, 254})
	isBoth(t, api.Segment{Acks: true, Ack: 0x0304}, []byte{0, 0, 3, 4, 0, 0, 8, 0, 0xf4, 0xfb})
	isBoth(t, api.Segment{Acks: true, Window: 0x0506}, []byte{0, 0, 0, 0, 5, 6, 8, 0, 0xf2, 0xf9})
	isBoth(t, api.Segment{Data: []byte{1, 2}}, []byte{0, 0, 0, 0, 0, 0, 0, 0, 0xfe, 0xfd, 1, 2})
	isBoth(t, api.Segment{Data: []byte{1, 2, 3}}, []byte{0, 0, 0, 0, 0, 0, 0, 0, 0xfb, 0xfd, 1, 2, 3})
	isBoth(t, api.Segment{Acks: true, Sacks: ranges(0x0102, 0x0304, 0x0506, 0x0708)}, []byte{0, 0, 0, 0, 0, 0, 8, 2, 0xe7, 0xe9, 1, 2, 3, 4, 5, 6, 7, 8})
}

func TestEachFlagAndAllTogether(t *testing.T) {
	isBoth(t, api.Segment{}, []byte{0, 0, 0, 0, 0, 0, 0, 0, 255, 255})
	isBoth(t, api.Segment{Syn: true}, []byte{0, 0, 0, 0, 0, 0, 1, 0, 254, 255})
	isBoth(t, api.Segment{Fin: true}, []byte{0, 0, 0, 0, 0, 0, 2, 0, 253, 255})
	isBoth(t, api.Segment{Rst: true}, []byte{0, 0, 0, 0, 0, 0, 4, 0, 251, 255})
	isBoth(t, api.Segment{Acks: true}, []byte{0, 0, 0, 0, 0, 0, 8, 0, 247, 255})
	isBoth(t, api.Segment{Syn: true, Fin: true, Rst: true, Acks: true}, []byte{0, 0, 0, 0, 0, 0, 15, 0, 240, 255})
	for bits := range 16 {
		isBoth(t, flagged(bits), []byte{0, 0, 0, 0, 0, 0, byte(bits), 0, byte(255 - bits), 255})
	}
}

func TestSegmentsAreTheirBytes(t *testing.T) {
	for _, s := range good() {
		isBoth(t, s, laid(s))
	}
	isBoth(t, whole(), laid(whole()))
}

func TestAllNumbers(t *testing.T) {
	for n := range last + 1 {
		for _, s := range []api.Segment{
			{Seq: n}, {Acks: true, Ack: n}, {Acks: true, Window: n},
			{Acks: true, Sacks: ranges(n, 1)}, {Acks: true, Sacks: ranges(1, n)}, {Acks: true, Sacks: ranges(2, 3, 4, 5, 6, n)},
			{Seq: n, Ack: n, Window: n, Acks: true, Sacks: ranges(n, n, n, n), Data: []byte{byte(n), byte(n / 256)}},
		} {
			isBoth(t, s, laid(s))
		}
	}
}

func TestBoundsOfAllNumbers(t *testing.T) {
	for bits := range 1 << 9 { // each of the nine numbers at the one bound or at the other
		at := func(i int) int { return bits >> i & 1 * last }
		s := api.Segment{Seq: at(0), Ack: at(1), Window: at(2), Acks: true, Sacks: ranges(at(3), at(4), at(5), at(6), at(7), at(8))}
		isBoth(t, s, laid(s))
		s.Data = []byte{255, 255}
		isBoth(t, s, laid(s))
	}
}

func TestSacksStandAsTheyAre(t *testing.T) {
	for _, l := range [][]api.Range{ // also turned round, without numbers, the same ones, and one in the other
		nil, {}, ranges(4, 5), ranges(5, 4), ranges(4, 4), ranges(0, 0), ranges(last, 0), ranges(0, last), ranges(last, last),
		ranges(4, 5, 4, 5, 4, 5), ranges(9, 10, 1, 2), ranges(1, 20, 3, 4, 2, 30), ranges(0, 0, 0, 0, 0, 0), ranges(6, 5, 4, 3, 2, 1),
	} {
		for _, n := range []int{0, 1, 2, 5, most} {
			s := api.Segment{Seq: 3, Ack: 4, Window: 5, Acks: true, Sacks: l, Data: data(n, n)}
			isBoth(t, s, laid(s))
		}
	}
}

func TestDataOfAllLengths(t *testing.T) {
	for n := range most + 1 {
		for count := range sacks + 1 {
			for _, b := range [][]byte{data(n, n), make([]byte, n), bytes.Repeat([]byte{255}, n)} {
				s := api.Segment{Seq: 77, Ack: 78, Window: 79, Acks: true, Sacks: ranges(1, 2, 3, 4, 5, 6)[:count], Data: b}
				isBoth(t, s, laid(s))
				if got, _ := seg.Encode(s); len(got) != head+4*count+n {
					t.Fatalf("%d bytes of %d Sacks and %d of Data", len(got), count, n)
				}
			}
		}
	}
}

func TestBytesThatAreAll0(t *testing.T) {
	for n := range most + 1 { // but for the sum
		isBoth(t, api.Segment{Data: make([]byte, n)}, append([]byte{0, 0, 0, 0, 0, 0, 0, 0, 255, 255}, make([]byte, n)...))
	}
}

func TestSumOf0(t *testing.T) {
	isBoth(t, api.Segment{Seq: last}, []byte{255, 255, 0, 0, 0, 0, 0, 0, 0, 0})
	isBoth(t, api.Segment{Acks: true, Ack: 0xf7ff}, []byte{0, 0, 0xf7, 0xff, 0, 0, 8, 0, 0, 0})
	isBoth(t, api.Segment{Data: []byte{255, 255}}, []byte{0, 0, 0, 0, 0, 0, 0, 0, 0, 0, 255, 255})
}

func TestEncodeOfNumbersThatThereAreNot(t *testing.T) {
	for _, n := range noNumbers() {
		for bits := range 16 {
			s := flagged(bits)
			s.Seq = n
			isRefused(t, s, api.ErrRange)
			s = flagged(bits)
			s.Ack = n
			isRefused(t, s, api.ErrRange)
			s = flagged(bits)
			s.Window = n
			isRefused(t, s, api.ErrRange)
		}
		for _, other := range append(numbers(), noNumbers()...) {
			isRefused(t, api.Segment{Acks: true, Seq: n, Ack: other, Window: 1}, api.ErrRange)
			isRefused(t, api.Segment{Acks: true, Seq: other, Ack: n, Window: 1}, api.ErrRange)
			isRefused(t, api.Segment{Acks: true, Seq: other, Ack: 1, Window: n}, api.ErrRange)
		}
		s := whole()
		s.Window = n
		isRefused(t, s, api.ErrRange)
	}
}

func TestEncodeOfTooMany(t *testing.T) {
	for _, n := range []int{sacks + 1, sacks + 2, 10, 252, 255, 256, 257, 258, 259, 260, 512, 65536, 65537} {
		isRefused(t, api.Segment{Acks: true, Sacks: make([]api.Range, n)}, api.ErrSize)
		isRefused(t, api.Segment{Acks: true, Sacks: make([]api.Range, n), Data: data(most, 1)}, api.ErrSize)
	}
	for _, n := range []int{most + 1, most + 2, 100, 255, 256, 257, 65535, 65536, 65537, 65600, 1 << 20} {
		isRefused(t, api.Segment{Data: make([]byte, n)}, api.ErrSize)
		isRefused(t, api.Segment{Acks: true, Sacks: ranges(1, 2), Data: data(n, n)}, api.ErrSize)
	}
	s := whole()
	s.Sacks = append(s.Sacks, api.Range{From: 1, To: 2})
	isRefused(t, s, api.ErrSize)
	s.Data = append(s.Data, 0)
	isRefused(t, s, api.ErrSize)
	s.Sacks = s.Sacks[:sacks]
	isRefused(t, s, api.ErrSize)
	s.Data = s.Data[:most]
	isEncode(t, s, laid(whole()), api.OK)
}

func TestEncodeOfSacksThatThereAreNot(t *testing.T) {
	for _, n := range noNumbers() {
		for count := 1; count <= sacks; count++ {
			for at := range count {
				for _, other := range append(numbers(), noNumbers()...) {
					for _, bad := range ranges(n, other, other, n) {
						l := ranges(1, 2, 0, last, last, 0)[:count]
						l[at] = bad
						isRefused(t, api.Segment{Seq: 1, Ack: 2, Window: 3, Acks: true, Sacks: l, Data: []byte{1}}, api.ErrRange)
					}
				}
			}
		}
	}
}

func TestEncodeOfWhatNoAcksTells(t *testing.T) {
	for bits := range 8 {
		for _, n := range numbers() {
			s := flagged(bits)
			s.Seq, s.Data = n, []byte{1, 2, 3}
			isBoth(t, s, laid(s))
			s.Sacks = []api.Range{}
			isBoth(t, s, laid(s))
			s.Sacks = ranges(n, n)
			isRefused(t, s, api.ErrForm)
			s.Sacks = ranges(n, 1, 2, n)
			isRefused(t, s, api.ErrForm)
			if n != 0 {
				s.Sacks, s.Ack = nil, n
				isRefused(t, s, api.ErrForm)
				s.Ack, s.Window = 0, n
				isRefused(t, s, api.ErrForm)
				s.Ack = n
				isRefused(t, s, api.ErrForm)
				s.Sacks = ranges(n, n)
				isRefused(t, s, api.ErrForm)
			}
		}
	}
	isRefused(t, api.Segment{Sacks: ranges(0, 0)}, api.ErrForm)
	isRefused(t, api.Segment{Sacks: make([]api.Range, sacks), Data: data(most, 1)}, api.ErrForm)
}

func TestEncodeTellsTheErrorThatIsNamedFirst(t *testing.T) {
	// each mends what the one ahead of it did wrong
	s := api.Segment{Seq: last + 1, Ack: last + 1, Window: last + 1, Sacks: ranges(-1, 0, 1, 2, 3, 4, 0, -1), Data: make([]byte, most+1)}
	isRefused(t, s, api.ErrRange)
	s.Seq = 0
	isRefused(t, s, api.ErrRange)
	s.Ack = 1
	isRefused(t, s, api.ErrRange)
	s.Window = 1
	isRefused(t, s, api.ErrSize) // though there are Sacks that are none, and no Acks
	s.Sacks = s.Sacks[:sacks]
	isRefused(t, s, api.ErrSize)
	s.Data = s.Data[:most]
	isRefused(t, s, api.ErrRange) // though there are no Acks
	s.Sacks[0].From = 0
	isRefused(t, s, api.ErrForm)
	s.Ack, s.Window = 0, 0
	isRefused(t, s, api.ErrForm)
	s.Sacks = s.Sacks[:0]
	isBoth(t, s, laid(s))
}

func TestEncodeOfAnyTwoErrors(t *testing.T) {
	type wrong struct {
		code  api.Errno
		spoil func(s *api.Segment)
	}
	all := []wrong{ // in the order in which they are named
		{api.ErrRange, func(s *api.Segment) { s.Seq = -1 }},
		{api.ErrRange, func(s *api.Segment) { s.Ack = last + 1 }},
		{api.ErrRange, func(s *api.Segment) { s.Window = last + 1 }},
		{api.ErrSize, func(s *api.Segment) { s.Sacks = append(s.Sacks, make([]api.Range, sacks)...) }},
		{api.ErrSize, func(s *api.Segment) { s.Data = make([]byte, most+1) }},
		{api.ErrRange, func(s *api.Segment) { s.Sacks[0].From = -1 }},
		{api.ErrRange, func(s *api.Segment) { s.Sacks[0].To = last + 1 }},
		{api.ErrForm, func(s *api.Segment) { s.Acks = false }},
	}
	for i, first := range all {
		for _, second := range all[i:] {
			s := api.Segment{Seq: 1, Ack: 2, Window: 3, Acks: true, Sacks: ranges(4, 5), Data: []byte{6}}
			first.spoil(&s)
			second.spoil(&s)
			isRefused(t, s, first.code)
		}
	}
}

// P4.2: Decode.

func TestDecodeOfTooFewBytes(t *testing.T) {
	for n := range head {
		isNone(t, make([]byte, n), api.ErrShort)
		isNone(t, bytes.Repeat([]byte{255}, n), api.ErrShort)
		for _, s := range good() {
			isNone(t, laid(s)[:n], api.ErrShort)
		}
	}
	isNone(t, nil, api.ErrShort)
	isNone(t, laid(whole())[:9:9], api.ErrShort)
}

func TestDecodeOfJustTenBytes(t *testing.T) {
	isDecode(t, []byte{0, 0, 0, 0, 0, 0, 0, 0, 255, 255}, api.Segment{}, api.OK)
	isDecode(t, []byte{1, 2, 3, 4, 5, 6, 15, 0, 0xe7, 0xf3}, api.Segment{Seq: 0x0102, Ack: 0x0304, Window: 0x0506, Syn: true, Fin: true, Rst: true, Acks: true}, api.OK)
	isNone(t, make([]byte, head), api.ErrSum)
	isNone(t, bytes.Repeat([]byte{255}, head), api.ErrSum)
	isNone(t, summed(bytes.Repeat([]byte{255}, head)), api.ErrForm)
}

func TestWhatLiesBehindIsNotRead(t *testing.T) {
	room := append(laid(whole()), 1, 2, 3)
	isDecode(t, room[:len(room)-3], whole(), api.OK)
	isNone(t, room, api.ErrSum)
}

func TestByteThatIsChangedIsSeen(t *testing.T) {
	list := []api.Segment{{}, {Seq: last}, {Data: []byte{0, 0, 0}}, {Data: []byte{255, 255}}, {Syn: true, Seq: 5}, whole(), {Acks: true, Ack: 9, Window: last, Sacks: ranges(1, 2)}}
	for _, s := range list {
		b := laid(s)
		for at := range b {
			was := b[at]
			for by := 1; by < 256; by++ {
				b[at] = was ^ byte(by)
				isNone(t, b, api.ErrSum)
			}
			b[at] = was
		}
		isDecode(t, b, s, api.OK)
	}
}

func TestByteThatIsChangedIsSeenInAllSegments(t *testing.T) {
	for _, s := range good() {
		b := laid(s)
		for at := range b {
			for _, by := range []byte{1, 2, 4, 8, 16, 32, 64, 128, 255} {
				b[at] ^= by
				isNone(t, b, api.ErrSum)
				b[at] ^= by
			}
		}
	}
}

func TestOtherSums(t *testing.T) {
	for _, s := range []api.Segment{{}, {Seq: last}, {Data: []byte{255, 255, 0}}, whole()} {
		b := laid(s)
		right := 256*int(b[8]) + int(b[9])
		for n := range last + 1 { // also 0 for 65535, which go for the same when they are added
			b[8], b[9] = byte(n/256), byte(n%256)
			if n == right {
				isDecode(t, b, s, api.OK)
			} else {
				isNone(t, b, api.ErrSum)
			}
		}
	}
}

func TestBytesThatAreMissingOrTooManyAreSeen(t *testing.T) {
	b := laid(api.Segment{Seq: 1, Ack: 2, Window: 3, Acks: true, Sacks: ranges(4, 5), Data: []byte{6, 7, 8}})
	for n := head; n < len(b); n++ {
		isNone(t, b[:n], api.ErrSum)
	}
	isNone(t, append(slices.Clone(b), 1), api.ErrSum)
	isNone(t, append(slices.Clone(b), 9, 9), api.ErrSum)
}

func TestDecodeOfFlagsThatThereAreNot(t *testing.T) {
	for _, s := range []api.Segment{{}, {Data: []byte{1, 2, 3}}, whole(), {Acks: true, Sacks: ranges(1, 2)}} {
		b := laid(s)
		for flags := range 256 {
			b[6] = byte(flags)
			if flags > 15 {
				isNone(t, summed(b), api.ErrForm)
			}
		}
	}
	for bits := range 16 {
		for high := 16; high < 256; high += 16 {
			isNone(t, summed([]byte{0, 0, 0, 0, 0, 0, byte(high + bits), 0, 0, 0}), api.ErrForm)
		}
	}
}

func TestDecodeOfTooManySacks(t *testing.T) {
	for count := sacks + 1; count < 256; count++ {
		for _, more := range []int{0, 1, 4, most, most + 1} { // though there are bytes enough
			b := make([]byte, head+4*count+more)
			b[6], b[7] = 8, byte(count)
			isNone(t, summed(b), api.ErrForm)
		}
		b := laid(whole()) // though there are not
		b[7] = byte(count)
		isNone(t, summed(b), api.ErrForm)
	}
}

func TestDecodeOfFewerBytesThanTheSacksNeed(t *testing.T) {
	for count := 1; count < 256; count++ {
		for _, n := range []int{head, head + 1, head + 3, head + 4*count - 4, head + 4*count - 3, head + 4*count - 2, head + 4*count - 1} {
			for _, flags := range []byte{0, 7, 8, 15} {
				b := data(n, n)
				b[6], b[7] = flags, byte(count)
				isNone(t, summed(b), api.ErrForm)
			}
		}
	}
	for count := 1; count <= sacks; count++ {
		for n := head; n < head+4*count; n++ {
			b := make([]byte, n)
			b[6], b[7] = 8, byte(count)
			isNone(t, summed(b), api.ErrForm)
		}
		b := make([]byte, head+4*count)
		b[6], b[7] = 8, byte(count)
		isDecode(t, summed(b), api.Segment{Acks: true, Sacks: make([]api.Range, count)}, api.OK)
	}
}

func TestDecodeOfTooMuchData(t *testing.T) {
	for count := range sacks + 1 {
		for _, n := range []int{most + 1, most + 2, most + 4, 100, 255, 256, 257, 1000, 65536, 65600, 1 << 20} {
			b := data(head+4*count+n, n)
			b[6], b[7] = 8, byte(count)
			isNone(t, summed(b), api.ErrForm)
		}
		b := data(head+4*count+most, 9)
		b[6], b[7] = 8, byte(count)
		if s, e := seg.Decode(summed(b)); e != api.OK || len(s.Data) != most || len(s.Sacks) != count {
			t.Fatalf("just so much Data: %v %d", s, e)
		}
	}
	b := data(head+most+1, 1) // and no Acks
	b[2], b[3], b[4], b[5], b[6], b[7] = 0, 0, 0, 0, 0, 0
	isNone(t, summed(b), api.ErrForm)
	isDecode(t, summed(b[:head+most]), api.Segment{Seq: 256*int(b[0]) + int(b[1]), Data: b[head : head+most]}, api.OK)
}

func TestDecodeOfWhatEncodeWouldRefuse(t *testing.T) {
	for flags := range byte(8) { // none of them is that for Acks
		for at := 2; at < 6; at++ {
			for _, v := range []byte{1, 2, 128, 255} {
				b := []byte{1, 2, 0, 0, 0, 0, flags, 0, 0, 0, 7}
				b[at] = v
				isNone(t, summed(b), api.ErrForm)
				b[6] |= 8
				s := flagged(int(flags) + 8)
				s.Seq, s.Ack, s.Window, s.Data = 0x0102, 256*int(b[2])+int(b[3]), 256*int(b[4])+int(b[5]), []byte{7}
				isDecode(t, summed(b), s, api.OK)
			}
		}
		for count := 1; count <= sacks; count++ {
			b := make([]byte, head+4*count+1)
			b[6], b[7] = flags, byte(count)
			isNone(t, summed(b), api.ErrForm)
		}
	}
}

func TestDecodeTellsTheErrorThatIsNamedFirst(t *testing.T) {
	b := []byte{9, 9, 9, 9, 9, 9, 255, 255, 9, 9} // of no segment in each way
	isNone(t, b[:9], api.ErrShort)
	isNone(t, b, api.ErrSum)
	isNone(t, summed(b), api.ErrForm)
	for _, n := range []int{10, 11, 22, 23, 86, 87, 2000} {
		b := data(n, n)
		for flags := range 256 {
			b[6], b[7] = byte(flags), byte(flags*7)
			c := summed(b)
			c[9]++
			isNone(t, c, api.ErrSum)
		}
	}
}

// mayBe: whether bytes with a right sum are of a segment, told by the bytes alone.
func mayBe(b []byte) bool {
	rest := len(b) - head - 4*int(b[7])
	acks := b[6]&8 > 0 || b[2] == 0 && b[3] == 0 && b[4] == 0 && b[5] == 0 && b[7] == 0
	return b[6] < 16 && b[7] <= 3 && rest >= 0 && rest <= most && acks
}

func TestBytesThatAreReadAreThoseThatEncodeMakes(t *testing.T) {
	read := 0
	for seed := range 60000 {
		b := data(head+seed%97, seed)
		b[6], b[7] = b[6]>>(seed%6), b[7]>>(4+seed%5)
		if seed%3 == 0 {
			b[2], b[3], b[4], b[5] = 0, 0, 0, 0
		}
		b = summed(b)
		s, e := seg.Decode(b)
		switch {
		case !mayBe(b):
			isNone(t, b, api.ErrForm)
		case e != api.OK:
			t.Fatalf("Decode(%v): %d", b, e)
		default:
			read++
			isBoth(t, s, b)
		}
	}
	if read < 5000 || read > 55000 {
		t.Fatalf("%d of them are read", read)
	}
}

// What holds everywhere.

// filled: the whole room of a list, also the spare one, as text.
func filled(s api.Segment) string {
	return fmt.Sprint(s, s.Sacks[:cap(s.Sacks)], s.Data[:cap(s.Data)])
}

func TestWhatIsHandedInIsNotChanged(t *testing.T) {
	for _, s := range append(good(), whole(), api.Segment{Seq: -1}, api.Segment{Sacks: ranges(1, -2, 3, 4)}) {
		s.Sacks = append(slices.Clone(s.Sacks), ranges(90, 91, 92, 93)...)[:len(s.Sacks)]
		s.Data = append(bytes.Clone(s.Data), 94, 95, 96)[:len(s.Data)]
		kept := filled(s)
		seg.Encode(s)
		if now := filled(s); now != kept {
			t.Fatalf("Encode: %s, was %s", now, kept)
		}
	}
	for _, s := range good() {
		for _, by := range []byte{0, 1} { // a right sum, and a wrong one
			room := append(laid(s), 97, 98, 99)
			b := room[:len(room)-3]
			b[9] ^= by
			kept := slices.Clone(room)
			seg.Decode(b)
			if !bytes.Equal(room, kept) {
				t.Fatalf("Decode: %v, were %v", room, kept)
			}
		}
	}
}

// scribble: over all that the lists of a segment have room for.
func scribble(s api.Segment) {
	for i := range s.Sacks[:cap(s.Sacks)] {
		s.Sacks[:cap(s.Sacks)][i] = api.Range{From: -7, To: -7}
	}
	for i := range s.Data[:cap(s.Data)] {
		s.Data[:cap(s.Data)][i] ^= 0x55
	}
}

func TestAnswersShareNothing(t *testing.T) {
	for _, s := range append(good(), whole()) {
		kept := fmt.Sprint(s)
		one, _ := seg.Encode(s)
		two, _ := seg.Encode(s)
		for i := range one[:cap(one)] {
			one[:cap(one)][i] ^= 0x55
		}
		if fmt.Sprint(s) != kept || !bytes.Equal(two, laid(s)) {
			t.Fatalf("what Encode(%s) answers is shared", kept)
		}
		three, _ := seg.Decode(two)
		four, _ := seg.Decode(two)
		scribble(three)
		if !same(four, s) || !bytes.Equal(two, laid(s)) {
			t.Fatalf("what Decode(%v) answers is shared", laid(s))
		}
		clear(two)
		if !same(four, s) {
			t.Fatalf("what Decode(%v) was given is kept", laid(s))
		}
	}
}

func TestNoListWithAnError(t *testing.T) {
	for _, s := range []api.Segment{{Seq: -1}, {Data: make([]byte, most+1)}, {Acks: true, Sacks: ranges(1, -1)}, {Ack: 1}} {
		if b, e := seg.Encode(s); len(b) != 0 || e == api.OK {
			t.Fatalf("Encode(%v): %v %d", s, b, e)
		}
	}
}

// ask: all that is told of a segment and of its bytes, and of some that are wrong.
func ask(s api.Segment) string {
	b, e := seg.Encode(s)
	told := fmt.Sprintln(b, e)
	for i := range b {
		got, e := seg.Decode(b[:i])
		told += fmt.Sprintln(got, e)
	}
	got, e := seg.Decode(b)
	told += fmt.Sprintln(got, e)
	s.Seq = -1
	b, e = seg.Encode(s)
	return told + fmt.Sprintln(b, e)
}

func TestAnswersHangOnArgumentsAlone(t *testing.T) {
	all := append(good(), whole(), api.Segment{Ack: 1}, api.Segment{Data: make([]byte, most+1)})
	var first []string
	for _, s := range all {
		first = append(first, ask(s))
	}
	var hands sync.WaitGroup
	for range 4 {
		hands.Go(func() {
			for i, s := range slices.Backward(all) {
				if now := ask(s); now != first[i] {
					t.Errorf("%v: %s, first %s", s, now, first[i])
				}
			}
		})
	}
	hands.Wait()
}
