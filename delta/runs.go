package delta

import "packthread/api"

// run: as many bytes as are copied at least.
type run [api.MinMatch]byte

// runs: the bytes of a file, and where in it each run stands, the first place first.
type runs struct {
	file   []byte
	places map[run][]int
}

// find: the runs of a file.
func find(file []byte) runs {
	r := runs{file, map[run][]int{}}
	for at := 0; at+api.MinMatch <= len(file); at++ {
		key := run(file[at:])
		r.places[key] = append(r.places[key], at)
	}
	return r
}

// most: from where on most of these bytes stand in the file, and how many; none: not even a run of them stands there.
func (r runs) most(b []byte) (int, int) {
	if len(b) < api.MinMatch {
		return 0, 0
	}
	from, most := 0, 0
	for _, at := range r.places[run(b)] {
		if n := alike(r.file[at:], b); n > most {
			from, most = at, n
		}
	}
	return from, most
}

// alike: with how many of the same bytes both begin.
func alike(a, b []byte) int {
	n := 0
	for n < len(a) && n < len(b) && a[n] == b[n] {
		n++
	}
	return n
}
