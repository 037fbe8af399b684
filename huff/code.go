package huff

import "packthread/api"

// mayBe: whether these are the lengths of codes.
func mayBe(lengths []int) bool {
	if len(lengths) > api.MaxSymbols {
		return false
	}
	sum := 0
	for _, n := range lengths {
		switch {
		case n < 0 || n > api.MaxLong:
			return false
		case n > 0:
			sum += 1 << (api.MaxLong - n)
		}
	}
	return sum <= 1<<api.MaxLong
}

// codes: the code of each symbol, of lengths that may be.
func codes(lengths []int) []bits {
	of := make([]bits, len(lengths))
	next := 0
	for long := 1; long <= api.MaxLong; long++ {
		next <<= 1
		for s, n := range lengths {
			if n == long {
				of[s] = bits{long, next}
				next++
			}
		}
	}
	return of
}

// book: which symbol a code is of.
type book struct {
	codes  []bits
	symbol map[bits]int
}

func index(codes []bits) book {
	k := book{codes, map[bits]int{}}
	for s, c := range codes {
		if c.long > 0 {
			k.symbol[c] = s
		}
	}
	return k
}

// next: the symbol whose code comes.
func (k book) next(in *reader) (int, api.Errno) {
	var read bits
	for read.long < api.MaxLong && in.more() {
		read = bits{read.long + 1, read.number<<1 | in.bit()}
		if s, found := k.symbol[read]; found {
			return s, api.OK
		}
	}
	for _, c := range k.codes {
		if c.goesOn(read) {
			return 0, api.ErrShort
		}
	}
	return 0, api.ErrNone
}
