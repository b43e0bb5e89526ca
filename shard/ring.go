package shard

import (
	"cmp"
	"slices"
	"sort"
	"strconv"

	"cubbyhole/api"
	"cubbyhole/entry"
	"cubbyhole/hash"
)

// point is a point of a name.
type point struct {
	sum  uint64
	name string
}

// ring is the points of some names, in order.
type ring struct {
	hasher hash.Hasher
	points []point
}

// newRing returns the ring of some names, each with some points.
func newRing(names []string, points int, seed uint64) ring {
	r := ring{hasher: hash.New(seed, false)}
	for _, name := range names {
		for n := range points {
			r.points = append(r.points, point{r.hasher.Sum(name + "#" + strconv.Itoa(n)), name})
		}
	}
	// Of equal points that of the least name comes first, so that this is the one that is found.
	slices.SortFunc(r.points, func(a, b point) int {
		return cmp.Or(cmp.Compare(a.sum, b.sum), cmp.Compare(a.name, b.name))
	})
	return r
}

// owner returns the owner of a key; there must be a name.
func (r ring) owner(key string) string {
	sum := r.hasher.Sum(key)
	i := sort.Search(len(r.points), func(i int) bool { return r.points[i].sum >= sum })
	return r.points[i%len(r.points)].name
}

// ValidName reports whether a string is a name.
func ValidName(s string) bool {
	if len(s) < 1 || len(s) > api.MaxName || !isLetter(s[0]) {
		return false
	}
	for i := range len(s) {
		if !isLetter(s[i]) && !(s[i] >= '0' && s[i] <= '9') && s[i] != '-' && s[i] != '_' {
			return false
		}
	}
	return true
}

// isLetter reports whether a byte is a letter.
func isLetter(c byte) bool { return c >= 'a' && c <= 'z' || c >= 'A' && c <= 'Z' }

func isPoints(n int) bool { return n >= 1 && n <= MaxPoints }

// Owner returns the owner of a key among some names, or an error.
func Owner(names []string, points int, seed uint64, key string) (string, api.Errno) {
	if !isPoints(points) || len(names) < 1 || len(names) > MaxShards || !entry.ValidKey(key) {
		return "", api.ErrArg
	}
	for i, name := range names {
		if !ValidName(name) || slices.Contains(names[:i], name) {
			return "", api.ErrArg
		}
	}
	return newRing(names, points, seed).owner(key), api.OK
}
