package stamp

import "orchard/api"

// CheckVector tells whether a vector may be.
func CheckVector(v api.Vector) bool {
	for _, n := range v {
		if n < 0 || n > api.MaxTime {
			return false
		}
	}
	return true
}

// Join is, site by site, the greatest of all, of none noughts.
func Join(l ...api.Vector) api.Vector {
	return bySites(func(a, b int64) int64 { return max(a, b) }, l...)
}

// Meet is, site by site, the least of all, of none noughts.
func Meet(l ...api.Vector) api.Vector {
	return bySites(func(a, b int64) int64 { return min(a, b) }, l...)
}

// bySites begins with the first vector, not with noughts, which are themselves greater or less than others.
func bySites(pick func(a, b int64) int64, l ...api.Vector) api.Vector {
	if len(l) == 0 {
		return api.Vector{}
	}
	v := l[0]
	for _, w := range l[1:] {
		for site, n := range w {
			v[site] = pick(v[site], n)
		}
	}
	return v
}

// Above tells whether no part of a is below that of b.
func Above(a, b api.Vector) bool { return Join(a, b) == a }

// Total is the sum of a vector's parts, wrapping round.
func Total(v api.Vector) int64 {
	var sum int64
	for _, n := range v {
		sum += n
	}
	return sum
}
