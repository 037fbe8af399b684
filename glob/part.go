package glob

import (
	"strings"

	"packthread/api"
)

// part: of a pattern.
type part struct {
	of  [256]bool // the bytes that it is of
	run bool      // it is of any number of any bytes, also of none
}

// read: the parts of a pattern, if it is one.
func read(pattern string) ([]part, bool) {
	if len(pattern) > api.MaxGlob {
		return nil, false
	}
	var parts []part
	for pattern != "" {
		p, n := first(pattern)
		if n == 0 {
			return nil, false
		}
		parts, pattern = append(parts, p), pattern[n:]
	}
	return parts, true
}

// first: the part with which these bytes begin, and how many of them it has; none: they begin with no part.
func first(s string) (part, int) {
	switch {
	case s[0] == '?':
		return but(part{}), 1
	case s[0] == '*':
		return part{run: true}, 1
	case s[0] == '[':
		return set(s)
	case s[0] != '\\':
		return one(s[0]), 1
	case len(s) > 1:
		return one(s[1]), 2
	}
	return part{}, 0
}

// one: the part that is of this byte alone.
func one(b byte) part {
	var p part
	p.of[b] = true
	return p
}

// but: the part that is of all bytes of which that one is not.
func but(p part) part {
	for b := range p.of {
		p.of[b] = !p.of[b]
	}
	return p
}

// set: the set with which these bytes begin, and how many of them it has; none: it does not end, or is no set.
func set(s string) (part, int) {
	inner, _, ended := strings.Cut(s[1:], "]") // what is in a set is no ]
	list, others := strings.CutPrefix(inner, "^")
	p, ok := listed(list)
	switch {
	case !ended || !ok:
		return part{}, 0
	case others:
		p = but(p)
	}
	return p, len(inner) + 2
}

// listed: the part that is of the bytes that a set names, if it may name them so.
func listed(list string) (part, bool) {
	if list == "" || strings.Contains(list, "\\") {
		return part{}, false
	}
	var p part
	for list != "" {
		n := 1
		if len(list) > 2 && list[1] == '-' {
			n = 3
		}
		from, to := int(list[0]), int(list[n-1])
		if to < from {
			return part{}, false
		}
		for b := from; b <= to; b++ {
			p.of[b] = true
		}
		list = list[n:]
	}
	return p, true
}
