package huff_test

import (
	"math/big"
	"slices"
	"strings"

	"packthread/api"
)

// The chapter, said once more in texts of 0 and 1, beside which the package is laid.

// plainMay: whether lengths may be, with numbers that have no bounds.
func plainMay(lengths []int) bool {
	if len(lengths) > many {
		return false
	}
	sum := new(big.Int)
	for _, n := range lengths {
		if n < 0 || n > long {
			return false
		}
		if n > 0 {
			sum.Add(sum, new(big.Int).Lsh(big.NewInt(1), uint(long-n)))
		}
	}
	return sum.Cmp(new(big.Int).Lsh(big.NewInt(1), long)) <= 0
}

// plainCodes: the code of each symbol as a text, of lengths that may be.
func plainCodes(lengths []int) []string {
	var order []int
	for s, n := range lengths {
		if n > 0 {
			order = append(order, s)
		}
	}
	slices.SortStableFunc(order, func(a, b int) int { return lengths[a] - lengths[b] })
	codes := make([]string, len(lengths))
	last := ""
	for i, s := range order {
		if i > 0 { // the last 0 becomes 1, and what is behind it 0
			at := strings.LastIndex(last, "0")
			last = last[:at] + "1" + strings.Repeat("0", len(last)-at-1)
		}
		last += strings.Repeat("0", lengths[s]-len(last))
		codes[s] = last
	}
	return codes
}

// plainNumber: a text of 0 and 1 as a number.
func plainNumber(code string) int {
	n := 0
	for _, c := range code {
		n = 2*n + int(c-'0')
	}
	return n
}

// plainBytes: a text of 0 and 1 as bytes, filled up with 0.
func plainBytes(text string) []byte {
	var b []byte
	for ; text != ""; text = text[8:] {
		if len(text) < 8 {
			text += strings.Repeat("0", 8-len(text))
		}
		b = append(b, byte(plainNumber(text[:8])))
	}
	return b
}

// plainText: bytes as a text of 0 and 1.
func plainText(b []byte) string {
	var s strings.Builder
	for _, x := range b {
		for by := 128; by > 0; by /= 2 {
			if int(x)&by != 0 {
				s.WriteByte('1')
			} else {
				s.WriteByte('0')
			}
		}
	}
	return s.String()
}

// plainEncode: what Encode answers.
func plainEncode(lengths, symbols []int) ([]byte, api.Errno) {
	if !plainMay(lengths) {
		return nil, errForm
	}
	codes := plainCodes(lengths)
	var text strings.Builder
	for _, s := range symbols {
		if s < 0 || s >= len(codes) || codes[s] == "" {
			return nil, errNone
		}
		text.WriteString(codes[s])
	}
	return plainBytes(text.String()), ok
}

// plainDecode: what Decode answers.
func plainDecode(lengths []int, b []byte, count int) ([]int, api.Errno) {
	if !plainMay(lengths) {
		return nil, errForm
	}
	if count < 0 || count > most {
		return nil, errRange
	}
	codes := plainCodes(lengths)
	text := plainText(b)
	var symbols []int
	for range count {
		s := slices.IndexFunc(codes, func(c string) bool { return c != "" && strings.HasPrefix(text, c) })
		switch {
		case s >= 0:
			symbols = append(symbols, s)
			text = text[len(codes[s]):]
		case slices.ContainsFunc(codes, func(c string) bool { return c != "" && strings.HasPrefix(c, text) }):
			return nil, errShort
		default:
			return nil, errNone
		}
	}
	return symbols, ok
}

// plainCost: the least cost: the two least ones are put together until there is one, and what comes of each is counted; one alone has one bit.
func plainCost(counts []int) int {
	var l []int
	for _, n := range counts {
		if n > 0 {
			l = append(l, n)
		}
	}
	if len(l) == 1 {
		return l[0]
	}
	cost := 0
	for len(l) > 1 {
		slices.Sort(l)
		l[1] += l[0]
		l = l[1:]
		cost += l[0]
	}
	return cost
}

// costOf: of lengths, where symbols come so often.
func costOf(counts, lengths []int) int {
	cost := 0
	for s, n := range lengths {
		cost += n * counts[s]
	}
	return cost
}

// upTo: the numbers from 0 on, below n.
func upTo(n int) []int {
	l := make([]int, n)
	for i := range l {
		l[i] = i
	}
	return l
}

// lists: all lists of n numbers from 0 on, below top.
func lists(n, top int) [][]int {
	out := [][]int{nil}
	for range n {
		var next [][]int
		for _, l := range out {
			for x := range top {
				next = append(next, append(slices.Clone(l), x))
			}
		}
		out = next
	}
	return out
}

// dice: numbers from 0 on, below n, the same ones each time.
func dice(seed uint32) func(n int) int {
	state := seed*2654435761 + 12345
	return func(n int) int {
		state = state*1664525 + 1013904223
		return int(state>>8) % n
	}
}

// mixed: a list in another order.
func mixed(roll func(int) int, l []int) []int {
	l = slices.Clone(l)
	for i := len(l) - 1; i > 0; i-- {
		k := roll(i + 1)
		l[i], l[k] = l[k], l[i]
	}
	return l
}

// someLengths: lengths that may be, made by parting a code in two again and again; some parts are left over.
func someLengths(roll func(int) int) []int {
	l := []int{1, 1}
	for range roll(90) {
		at := roll(len(l))
		if roll(3) > 0 {
			at = len(l) - 1 // so they grow long
		}
		if l[at] > 0 && l[at] < long && len(l) < many {
			l[at]++
			l = append(l, l[at])
		}
	}
	for range roll(4) {
		l[roll(len(l))] = 0
	}
	for len(l) < many && roll(3) > 0 {
		l = append(l, 0)
	}
	return mixed(roll, l)
}
