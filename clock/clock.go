// Package clock is layer 7: stamps and version vectors. See shared/doc/07-clock.md.
package clock

import "langdoc/api"

// idBase is the factor of the counter in an Id: one more than the greatest device.
const idBase = api.MaxDevs + 1

// Right is specified in P7.1.
func Right(s api.Stamp) bool {
	return s == nearest(s)
}

// Less is specified in P7.1.
func Less(a, b api.Stamp) bool {
	if a.Count != b.Count {
		return a.Count < b.Count
	}
	return a.Dev < b.Dev
}

// Id is specified in P7.2.
func Id(s api.Stamp) int {
	if !Right(s) {
		return 0
	}
	return idBase*s.Count + s.Dev
}

// Of is specified in P7.2.
func Of(id int) (api.Stamp, bool) {
	return ifRight(api.Stamp{Count: id / idBase, Dev: id % idBase})
}

// Covers is specified in P7.3.
func Covers(v []int, s api.Stamp) bool {
	return Right(s) && number(v, s.Dev) >= s.Count
}

// Join is specified in P7.4.
func Join(a, b []int) []int {
	joined := make([]int, api.MaxDevs)
	for i := range joined {
		joined[i] = max(number(a, i+1), number(b, i+1))
	}
	return joined
}

// See is specified in P7.4.
func See(v []int, s api.Stamp) []int {
	seen := Join(v, nil)
	if Right(s) {
		seen[s.Dev-1] = max(seen[s.Dev-1], s.Count)
	}
	return seen
}

// Leq is specified in P7.3.
func Leq(a, b []int) bool {
	for dev := 1; dev <= api.MaxDevs; dev++ {
		if number(a, dev) > number(b, dev) {
			return false
		}
	}
	return true
}

// Next is specified in P7.5.
func Next(v []int, dev int) (api.Stamp, bool) {
	last := 0
	for d := 1; d <= api.MaxDevs; d++ {
		last = max(last, number(v, d))
	}
	// After the greatest int, the counter wraps around to a negative one, which is not right either.
	return ifRight(api.Stamp{Count: last + 1, Dev: dev})
}

// nearest returns the right stamp whose counter and device are nearest to those of s.
func nearest(s api.Stamp) api.Stamp {
	return api.Stamp{
		Count: max(1, min(s.Count, api.MaxCount)),
		Dev:   max(1, min(s.Dev, api.MaxDevs)),
	}
}

func ifRight(s api.Stamp) (api.Stamp, bool) {
	if !Right(s) {
		return api.Stamp{}, false
	}
	return s, true
}

// number returns the greatest counter of a device that a vector has seen.
func number(v []int, dev int) int {
	if dev > len(v) {
		return 0
	}
	return max(0, v[dev-1])
}
