package huff_test

import (
	"fmt"
	"math"
	"slices"
	"sync"
	"testing"

	"packthread/huff"
)

// What holds everywhere.

// someNumbers: lists of all sorts, some of which are refused, with spare room behind them, in which something stands.
func someNumbers() [][]int {
	l := slices.Concat(good(), [][]int{{5, 1, 0, 1, 2}, {0, 1, 0}, {1, 0, 2, 2, 1}, {-1}, {1, 1, 1}, {0, 3, 900}, {1, 2, times}, {times + 1}, {math.MinInt, math.MaxInt}, slow(30, times), same(times, many), same(1, many+1), same(0, 300), same(2, most)})
	for i := range l {
		l[i] = roomy(l[i])
	}
	return append(l, nil, []int{})
}

// someBytes: of all sorts, with spare room behind them, in which something stands.
func someBytes() [][]byte {
	var l [][]byte
	for _, b := range [][]byte{{}, {0}, {255}, {91, 128}, {0, 0, 0, 0, 0, 0, 0}, {128, 0, 0, 0, 0, 255}, {255, 255, 255, 255, 255, 254, 1}} {
		l = append(l, append(slices.Clone(b), "spare"...)[:len(b)])
	}
	return append(l, nil)
}

// someCounts: some of which are refused.
func someCounts() []int { return []int{0, 1, 2, 5, 9, most, -1, most + 1} }

// roomy: the same numbers, with spare room behind them, in which something stands.
func roomy(l []int) []int {
	return append(slices.Clone(l), 3, -7, 1, 1<<40)[:len(l)]
}

// whole: all that stands in a list, in spare room, too.
func whole[T any](l []T) string { return fmt.Sprint(len(l), l[:cap(l)]) }

// scrawl: over all that a list has room for.
func scrawl[T int | byte](l []T) {
	for i := range l[:cap(l)] {
		l[:cap(l)][i] = 77
	}
}

// isBlank: nothing stands in the spare room behind a list.
func isBlank[T int | byte](t *testing.T, l []T) {
	t.Helper()
	for _, x := range l[len(l):cap(l)] {
		if x != 0 {
			t.Fatalf("in spare room: %s", whole(l))
		}
	}
}

// areNew: what ask answers is shared with no other answer of it and with none of its arguments, and of those nothing is kept or changed.
func areNew[T int | byte](t *testing.T, args [][]int, b []byte, ask func(args [][]int, b []byte) []T) {
	t.Helper()
	before := func() string {
		s := whole(b)
		for _, l := range args {
			s += " " + whole(l)
		}
		return s
	}
	was := before()
	first, second := ask(args, b), ask(args, b)
	if before() != was {
		t.Fatalf("%s: changed", was)
	}
	isBlank(t, first)
	want := whole(second)
	scrawl(first)
	_ = append(first, 7, 7, 7)
	if before() != was || whole(second) != want {
		t.Fatalf("%s: what is told is shared", was)
	}
	var own [][]int
	for _, l := range args {
		own = append(own, slices.Clone(l))
	}
	ownBytes := slices.Clone(b)
	third := ask(own, ownBytes)
	want = whole(third)
	for _, l := range own {
		scrawl(l)
	}
	scrawl(ownBytes)
	if whole(third) != want || !slices.Equal(second, third) {
		t.Fatalf("%s: what was handed in is kept", was)
	}
}

func TestLengthsAndCodesAreNew(t *testing.T) {
	for _, l := range someNumbers() {
		areNew(t, [][]int{l}, nil, func(args [][]int, _ []byte) []int {
			out, _ := huff.Lengths(args[0])
			return out
		})
		areNew(t, [][]int{l}, nil, func(args [][]int, _ []byte) []int {
			out, _ := huff.Codes(args[0])
			return out
		})
	}
}

func TestEncodedBytesAreNew(t *testing.T) {
	for _, l := range someNumbers() {
		for _, symbols := range append(someNumbers(), known(l)) {
			areNew(t, [][]int{l, symbols}, nil, func(args [][]int, _ []byte) []byte {
				out, _ := huff.Encode(args[0], args[1])
				return out
			})
		}
		areNew(t, [][]int{l, l}, nil, func(args [][]int, _ []byte) []byte { // both are one list
			out, _ := huff.Encode(args[0], args[0])
			return out
		})
	}
}

func TestDecodedSymbolsAreNew(t *testing.T) {
	for _, l := range someNumbers() {
		for _, b := range someBytes() {
			for _, count := range someCounts() {
				areNew(t, [][]int{l}, b, func(args [][]int, b []byte) []int {
					out, _ := huff.Decode(args[0], b, count)
					return out
				})
			}
		}
	}
}

// toldOf: all that is told of these lists and bytes, as texts.
func toldOf() []string {
	var out []string
	for _, l := range someNumbers() {
		a, codeA := huff.Lengths(l)
		b, codeB := huff.Codes(l)
		out = append(out, fmt.Sprint(a, codeA, b, codeB))
		for _, symbols := range someNumbers() {
			c, code := huff.Encode(l, symbols)
			out = append(out, fmt.Sprint(c, code))
		}
		for _, c := range someBytes() {
			for _, count := range someCounts() {
				s, code := huff.Decode(l, c, count)
				out = append(out, fmt.Sprint(s, code))
			}
		}
	}
	for seed := range uint32(200) { // many that come as often as others
		roll := dice(seed)
		counts := make([]int, many)
		for i := range counts {
			counts[i] = roll(1 + roll(9))
		}
		l, code := huff.Lengths(counts)
		out = append(out, fmt.Sprint(l, code))
	}
	return out
}

func TestAnswersHangOnArgumentsAlone(t *testing.T) {
	first := toldOf()
	var hands sync.WaitGroup
	for range 4 {
		hands.Go(func() {
			if !slices.Equal(toldOf(), first) {
				t.Error("another answer")
			}
		})
	}
	hands.Wait()
	if !slices.Equal(toldOf(), first) {
		t.Error("another answer")
	}
}
