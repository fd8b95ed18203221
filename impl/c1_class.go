package impl

import (
	"math/bits"
	"slices"
	"strconv"
	"strings"
)

// MaxN is the largest number of points.
const MaxN = 5

// Class is sets of points.
type Class struct {
	N    int
	Sets []int
}

// marks tells which sets of points are there. It is an array so that == tells whether two collections of sets are the same.
type marks [1 << MaxN]bool

// list returns the sets that are there, ascending.
func (m marks) list() []int {
	var out []int
	for s, there := range m {
		if there {
			out = append(out, s)
		}
	}
	return out
}

// isSetOf reports whether a class is valid and a number is a set of its points.
func isSetOf(c Class, s int) bool {
	return ValidClass(c) && s >= 0 && s < 1<<c.N
}

// isPointOf reports whether a class is valid and a number is one of its points.
func isPointOf(c Class, x int) bool {
	return ValidClass(c) && x >= 0 && x < c.N
}

// sizeOf returns the number of points of a set.
func sizeOf(s int) int {
	return bits.OnesCount(uint(s))
}

// keysOf returns the sets of a class as the keys of a map.
func keysOf(c Class) map[int]bool {
	keys := make(map[int]bool, len(c.Sets))
	for _, s := range c.Sets {
		keys[s] = true
	}
	return keys
}

// classOf returns the class of n points of the keys of a map. It looks the sets up in order, since a map has none.
func classOf(n int, keys map[int]bool) Class {
	c := Class{N: n}
	for s := range 1 << n {
		if keys[s] {
			c.Sets = append(c.Sets, s)
		}
	}
	return c
}

// setsWhere returns the sets of points of a class for which a test holds, ascending.
func setsWhere(c Class, holds func(Class, int) bool) []int {
	if !ValidClass(c) {
		return nil
	}
	var out []int
	for s := range 1 << c.N {
		if holds(c, s) {
			out = append(out, s)
		}
	}
	return out
}

// ValidClass reports whether a class is valid.
func ValidClass(c Class) bool {
	if c.N < 0 || c.N > MaxN {
		return false
	}
	least := 0
	for _, s := range c.Sets {
		if s < least || s >= 1<<c.N {
			return false
		}
		least = s + 1
	}
	return true
}

// traceMarks marks the parts of the sets of a class within a set.
func traceMarks(c Class, s int) marks {
	var m marks
	for _, t := range c.Sets {
		m[t&s] = true
	}
	return m
}

// partMarks marks all parts of a set.
func partMarks(s int) marks {
	var m marks
	for p := range m {
		m[p] = p&s == p
	}
	return m
}

// TraceOf returns the parts of sets within a set.
func TraceOf(c Class, s int) []int {
	if !isSetOf(c, s) {
		return nil
	}
	return traceMarks(c, s).list()
}

// IsShattered reports whether a set is shattered.
func IsShattered(c Class, s int) bool {
	return isSetOf(c, s) && traceMarks(c, s) == partMarks(s)
}

// ShatteredSets returns the sets that are shattered.
func ShatteredSets(c Class) []int {
	return setsWhere(c, IsShattered)
}

// VCDimension returns the greatest number of points that are shattered.
func VCDimension(c Class) int {
	most := -1
	for _, s := range ShatteredSets(c) {
		most = max(most, sizeOf(s))
	}
	return most
}

// hasCubeAt reports whether a set without points of s is a key with all parts of s put to it.
func hasCubeAt(keys map[int]bool, base int, s int) bool {
	for p := range s + 1 {
		if p&s == p && !keys[base|p] {
			return false
		}
	}
	return true
}

// IsStrong reports whether a class has a cube along a set.
func IsStrong(c Class, s int) bool {
	if !isSetOf(c, s) {
		return false
	}
	keys := keysOf(c)
	for _, base := range c.Sets {
		if base&s == 0 && hasCubeAt(keys, base, s) {
			return true
		}
	}
	return false
}

// StrongSets returns the sets along which a class has cubes.
func StrongSets(c Class) []int {
	return setsWhere(c, IsStrong)
}

// GrowthOf returns the greatest number of parts within some points.
func GrowthOf(c Class, k int) int {
	if !ValidClass(c) || k < 0 || k > c.N {
		return -1
	}
	most := 0
	for s := range 1 << c.N {
		if sizeOf(s) == k {
			most = max(most, len(TraceOf(c, s)))
		}
	}
	return most
}

// SauerBound returns how many sets of few points there are.
func SauerBound(n int, d int) int {
	if n < 0 || n > MaxN {
		return -1
	}
	count := 0
	for s := range 1 << n {
		if sizeOf(s) <= d {
			count++
		}
	}
	return count
}

// IsMaximum reports whether a class has as many sets as it may have.
func IsMaximum(c Class) bool {
	return ValidClass(c) && len(c.Sets) == SauerBound(c.N, VCDimension(c))
}

// IsExtremal reports whether a class has as many sets as it shatters.
func IsExtremal(c Class) bool {
	return ValidClass(c) && len(c.Sets) == len(ShatteredSets(c))
}

// ComplementClass returns the class of all other sets.
func ComplementClass(c Class) Class {
	if !ValidClass(c) {
		return Class{}
	}
	others := map[int]bool{}
	for s := range 1 << c.N {
		others[s] = true
	}
	for _, s := range c.Sets {
		delete(others, s)
	}
	return classOf(c.N, others)
}

// FlipClass returns a class with points changed.
func FlipClass(c Class, s int) Class {
	if !isSetOf(c, s) {
		return Class{}
	}
	flipped := map[int]bool{}
	for _, t := range c.Sets {
		flipped[t^s] = true
	}
	return classOf(c.N, flipped)
}

// ShiftClass returns a class with a point taken out of sets.
func ShiftClass(c Class, x int) Class {
	if !isPointOf(c, x) {
		return Class{}
	}
	keys := keysOf(c)
	for _, s := range c.Sets {
		lower := s &^ (1 << x)
		if !keys[lower] {
			delete(keys, s)
			keys[lower] = true
		}
	}
	return classOf(c.N, keys)
}

// SettleClass returns a class after shifts until it stays.
func SettleClass(c Class) Class {
	if !ValidClass(c) {
		return Class{}
	}
	// A copy, since a class of no points is not shifted at all.
	now := classOf(c.N, keysOf(c))
	for {
		next := now
		for x := range c.N {
			next = ShiftClass(next, x)
		}
		if slices.Equal(next.Sets, now.Sets) {
			return next
		}
		now = next
	}
}

// withoutPoint returns a set without a point, with the points greater than it one less.
func withoutPoint(s int, x int) int {
	below := s & (1<<x - 1)
	return below | s>>(x+1)<<x
}

// RemovePoint returns a class without a point.
func RemovePoint(c Class, x int) Class {
	if !isPointOf(c, x) {
		return Class{}
	}
	keys := map[int]bool{}
	for _, s := range c.Sets {
		keys[withoutPoint(s, x)] = true
	}
	return classOf(c.N-1, keys)
}

// LinkOf returns the sets that are there with a point and without.
func LinkOf(c Class, x int) Class {
	if !isPointOf(c, x) {
		return Class{}
	}
	keys := keysOf(c)
	link := map[int]bool{}
	for _, s := range c.Sets {
		if s>>x&1 == 0 && keys[s|1<<x] {
			link[withoutPoint(s, x)] = true
		}
	}
	return classOf(c.N-1, link)
}

// indicesWith returns the set of the indices of the sets that have a point.
func indicesWith(sets []int, x int) int {
	out := 0
	for i, s := range sets {
		out |= s >> x & 1 << i
	}
	return out
}

// DualClass returns the class of points as sets.
func DualClass(c Class) Class {
	if !ValidClass(c) || len(c.Sets) > MaxN {
		return Class{}
	}
	keys := map[int]bool{}
	for x := range c.N {
		keys[indicesWith(c.Sets, x)] = true
	}
	return classOf(len(c.Sets), keys)
}

// ClassText returns the text of a class.
func ClassText(c Class) string {
	if !ValidClass(c) {
		return ""
	}
	parts := make([]string, len(c.Sets))
	for i, s := range c.Sets {
		parts[i] = strconv.Itoa(s)
	}
	return strconv.Itoa(c.N) + ":" + strings.Join(parts, ",")
}

// numberOr returns the number that a text tells, or -1, which is neither a set nor a number of points.
func numberOr(text string) int {
	n, err := strconv.Atoi(text)
	if err != nil {
		return -1
	}
	return n
}

// ParseClass returns the class of a text.
func ParseClass(s string) (Class, bool) {
	head, tail, _ := strings.Cut(s, ":")
	c := Class{N: numberOr(head)}
	if tail != "" {
		for _, part := range strings.Split(tail, ",") {
			c.Sets = append(c.Sets, numberOr(part))
		}
	}
	// Writing the class again rejects all other ways to write its numbers.
	if !ValidClass(c) || ClassText(c) != s {
		return Class{}, false
	}
	return c, true
}
