package tests

import (
	"math"
	"math/bits"
	"slices"
	"testing"

	"loop.example/shatteredsets/impl"
)

// at returns the class of n points and some sets.
func at(n int, sets ...int) impl.Class {
	return impl.Class{N: n, Sets: sets}
}

// coded returns the class of n points that has the set s exactly if the code has the bit s.
func coded(n int, code uint64) impl.Class {
	c := impl.Class{N: n}
	for s := range 1 << n {
		if code>>s&1 == 1 {
			c.Sets = append(c.Sets, s)
		}
	}
	return c
}

// notable returns classes of n points that tests should not leave to chance.
func notable(n int) []impl.Class {
	all := uint64(1)<<(1<<n) - 1
	list := []impl.Class{coded(n, 0), coded(n, 1), coded(n, all), coded(n, all&^1), coded(n, 1<<(1<<n-1))}
	var steps, even, ones uint64
	for k := range n + 1 {
		steps |= 1 << (1<<k - 1)
	}
	for s := range 1 << n {
		if bits.OnesCount(uint(s))%2 == 0 {
			even |= 1 << s
		}
		if bits.OnesCount(uint(s)) == 1 {
			ones |= 1 << s
		}
	}
	list = append(list, coded(n, steps), coded(n, even), coded(n, ones), coded(n, ones|1))
	for d := range n + 1 {
		var ball uint64
		for s := range 1 << n {
			if bits.OnesCount(uint(s)) <= d {
				ball |= 1 << s
			}
		}
		list = append(list, coded(n, ball), coded(n, all&^ball))
	}
	return list
}

// classes returns all classes of at most 3 points, many of 4 and some of MaxN, always the same ones.
func classes() []impl.Class {
	var list []impl.Class
	for n := range 4 {
		for code := range uint64(1) << (1 << n) {
			list = append(list, coded(n, code))
		}
	}
	for code := uint64(0); code < 1<<16; code += 61 {
		list = append(list, coded(4, code))
	}
	list = append(list, notable(4)...)
	list = append(list, notable(impl.MaxN)...)
	state := uint64(12345)
	for i := range 240 {
		state = state*6364136223846793005 + 1442695040888963407
		code := state >> 32
		if i%3 == 1 {
			code &= code>>7 | code<<11
			code &= 1<<32 - 1
		}
		if i%3 == 2 {
			code &= state >> 16 & (state >> 24)
		}
		list = append(list, coded(impl.MaxN, code))
	}
	return list
}

// invalidClasses returns classes that are not valid, each for one reason.
func invalidClasses() []impl.Class {
	return []impl.Class{
		at(-1), at(-1, 0), at(math.MinInt), at(math.MinInt, 0, 1),
		at(impl.MaxN + 1), at(impl.MaxN+1, 0), at(impl.MaxN+1, 0, 32), at(64, 0, 1), at(math.MaxInt, 0),
		at(3, 2, 1), at(3, 0, 5, 4), at(3, 1, 1), at(3, 0, 7, 7), at(0, 0, 0),
		at(3, -1), at(3, -1, 0, 1), at(3, 0, 1, -2), at(2, math.MinInt),
		at(0, 1), at(2, 4), at(2, 0, 3, 4), at(3, 8), at(impl.MaxN, 32), at(impl.MaxN, 0, math.MaxInt),
	}
}

// outside returns numbers that are no sets of n points.
func outside(n int) []int {
	return []int{-1, 1 << n, 1<<n + 1, 64, math.MinInt, math.MaxInt}
}

// noPoints returns numbers that are none of n points.
func noPoints(n int) []int {
	return []int{-1, n, n + 1, 63, 64, math.MinInt, math.MaxInt}
}

// whole returns the set of all points of a class.
func whole(c impl.Class) int {
	return 1<<c.N - 1
}

// in reports whether a point is in a set.
func in(s int, x int) bool {
	return s>>x&1 == 1
}

// part reports whether all points of a are in b.
func part(a int, b int) bool {
	return a&^b == 0
}

// among reports whether all of a are among b.
func among(a []int, b []int) bool {
	for _, s := range a {
		if !slices.Contains(b, s) {
			return false
		}
	}
	return true
}

// same reports whether two classes have as many points and the same sets.
func same(a impl.Class, b impl.Class) bool {
	return a.N == b.N && slices.Equal(a.Sets, b.Sets)
}

// isZero reports whether a class is the zero value.
func isZero(c impl.Class) bool {
	return c.N == 0 && len(c.Sets) == 0
}

// each runs a test for each of the classes, and stops at the first one that fails; it tells nothing if a test ahead of it has failed.
func each(t *testing.T, test func(*testing.T, impl.Class)) {
	t.Helper()
	if t.Failed() {
		return
	}
	for _, c := range classes() {
		test(t, c)
		if t.Failed() {
			t.Fatalf("of the class %v", c)
		}
	}
}

// sizes returns the number of points of a set.
func sizes(s int) int {
	return bits.OnesCount(uint(s))
}
