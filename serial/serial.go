// Package serial: numbers that come round. See doc/01-serial.md.
package serial

import "packthread/api"

// half: from here on it can't be told any more which of two numbers is ahead.
const half = api.Round / 2

// Add: the serial number that comes n behind s.
func Add(s, n int) (int, api.Errno) {
	if !serials(s) || n < 0 || n >= half {
		return 0, api.ErrRange
	}
	return wrap(s + n), api.OK
}

// Far: how many numbers b comes behind a.
func Far(a, b int) (int, api.Errno) {
	if !serials(a, b) {
		return 0, api.ErrRange
	}
	return wrap(b - a), api.OK
}

// Order: 0 if they are the same, -1 if a is ahead, 1 if b is, 2 if neither can be said to be.
func Order(a, b int) (int, api.Errno) {
	if !serials(a, b) {
		return 0, api.ErrRange
	}
	far := wrap(b - a)
	switch {
	case far == 0:
		return 0, api.OK
	case far < half:
		return -1, api.OK
	case far == half:
		return 2, api.OK
	}
	return 1, api.OK
}

// Within: whether s is one of the n numbers from low on.
func Within(s, low, n int) (bool, api.Errno) {
	if !serials(s, low) || n < 0 || n > api.Round {
		return false, api.ErrRange
	}
	return wrap(s-low) < n, api.OK
}

// Near: the place nearest to place whose serial number is s.
func Near(s, place int) (int, api.Errno) {
	if !serials(s) || place < 0 || place > api.MaxPos {
		return 0, api.ErrRange
	}
	far := wrap(s - place)
	if far >= half { // of two that are as near the lower one is asked for
		far -= api.Round
	}
	return place + far, api.OK
}

// serials: whether all of these are serial numbers.
func serials(l ...int) bool {
	for _, s := range l {
		if s < 0 || s >= api.Round {
			return false
		}
	}
	return true
}

// wrap: the serial number that n comes to; a remainder has the sign of n, so one below 0 is lifted.
func wrap(n int) int {
	n %= api.Round
	if n < 0 {
		n += api.Round
	}
	return n
}
