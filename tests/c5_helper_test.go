package tests

import (
	"slices"
	"testing"

	"loop.example/shatteredsets/impl"
)

// missed returns what RiskOf is to return.
func missed(s int, list []impl.Example) int {
	count := 0
	for _, e := range list {
		if !fits(s, []impl.Example{e}) {
			count++
		}
	}
	return count
}

// apart returns the number of points at which two sets differ.
func apart(s int, t int) int {
	count := 0
	for x := range impl.MaxN {
		if in(s, x) != in(t, x) {
			count++
		}
	}
	return count
}

// best returns the first one of some sets with the least value, and this.
func best(sets []int, value func(int) int) (int, int, bool) {
	for least := range 100 {
		for _, s := range sets {
			if value(s) == least {
				return s, least, true
			}
		}
	}
	return 0, 0, false
}

// around returns the sets of n points that come of s by at most k points put in or taken out.
func around(n int, s int, k int) []int {
	if k < 0 {
		return nil
	}
	list := []int{s}
	for range min(k, n) {
		for _, t := range slices.Clone(list) {
			for x := range n {
				list = append(list, t^1<<x)
			}
		}
		slices.Sort(list)
		list = slices.Compact(list)
	}
	return list
}

// covered returns what CoverRadius is to return: from how far the balls round Sets are all sets.
func covered(c impl.Class) int {
	if len(c.Sets) == 0 {
		return -1
	}
	k := 0
	for {
		var list []int
		for _, s := range c.Sets {
			list = append(list, around(c.N, s, k)...)
		}
		slices.Sort(list)
		if len(slices.Compact(list)) == 1<<c.N {
			return k
		}
		k++
	}
}

// packed returns what PackDistance is to return.
func packed(c impl.Class) int {
	for k := 1; k <= c.N; k++ {
		for _, s := range c.Sets {
			if slices.ContainsFunc(c.Sets, func(t int) bool { return apart(s, t) == k }) {
				return k
			}
		}
	}
	return 0
}

// noisy returns what NoiseSum is to return.
func noisy(c impl.Class) int {
	sum := 0
	for s := range 1 << c.N {
		var values []int
		for _, t := range c.Sets {
			value := 0
			for x := range c.N {
				if in(s, x) == in(t, x) {
					value++
				} else {
					value--
				}
			}
			values = append(values, value)
		}
		if len(values) > 0 {
			sum += slices.Max(values)
		}
	}
	return sum
}

// united returns what UnionClass is to return.
func united(a impl.Class, b impl.Class) impl.Class {
	c := at(a.N)
	for s := range 1 << a.N {
		if slices.Contains(a.Sets, s) || slices.Contains(b.Sets, s) {
			c.Sets = append(c.Sets, s)
		}
	}
	return c
}

// met returns what MeetClass is to return.
func met(a impl.Class, b impl.Class) impl.Class {
	c := at(a.N)
	for s := range 1 << a.N {
		if slices.Contains(a.Sets, s) && slices.Contains(b.Sets, s) {
			c.Sets = append(c.Sets, s)
		}
	}
	return c
}

// multiplied returns what ProductClass is to return of classes of few enough points.
func multiplied(a impl.Class, b impl.Class) impl.Class {
	c := at(a.N + b.N)
	for s := range 1 << c.N {
		var first, second int
		for x := range c.N {
			if in(s, x) && x < a.N {
				first += 1 << x
			} else if in(s, x) {
				second += 1 << (x - a.N)
			}
		}
		if slices.Contains(a.Sets, first) && slices.Contains(b.Sets, second) {
			c.Sets = append(c.Sets, s)
		}
	}
	return c
}

// allSets returns the class of all sets of n points.
func allSets(n int) impl.Class {
	return coded(n, 1<<(1<<n)-1)
}

// partners returns classes of as many points as c: with nothing in common with it, with all, and with some.
func partners(c impl.Class) []impl.Class {
	code, all := codeOf(c.Sets), codeOf(allSets(c.N).Sets)
	list := []impl.Class{c, coded(c.N, all&^code), at(c.N), allSets(c.N), coded(c.N, 1), coded(c.N, 1<<(1<<c.N-1))}
	state := code + uint64(c.N)
	for range 3 {
		state = state*6364136223846793005 + 1442695040888963407
		drawn := state >> 30
		list = append(list, coded(c.N, drawn&all), coded(c.N, drawn&code), coded(c.N, (drawn&drawn>>9|code)&all))
	}
	return list
}

// eachPair runs a test for each of the classes with each of its partners, in both orders, and stops at the first one that fails.
func eachPair(t *testing.T, test func(*testing.T, impl.Class, impl.Class)) {
	t.Helper()
	each(t, func(t *testing.T, c impl.Class) {
		for _, d := range partners(c) {
			test(t, c, d)
			test(t, d, c)
			if t.Failed() {
				t.Fatalf("with the class %v", d)
			}
		}
	})
}

// factors returns classes of n points to be multiplied.
func factors(n int) []impl.Class {
	if n < 3 {
		var list []impl.Class
		for code := range uint64(1) << (1 << n) {
			list = append(list, coded(n, code))
		}
		return list
	}
	list := notable(n)
	state := uint64(n)
	for range 40 {
		state = state*6364136223846793005 + 1442695040888963407
		list = append(list, coded(n, state>>20&(state>>41|1)&(1<<(1<<n)-1)))
	}
	return list
}

// eachProduct runs a test for classes that have at most MaxN points together, and stops at the first one that fails.
func eachProduct(t *testing.T, test func(*testing.T, impl.Class, impl.Class)) {
	t.Helper()
	for n := range impl.MaxN + 1 {
		for m := range impl.MaxN + 1 - n {
			for _, a := range factors(n) {
				for _, b := range factors(m) {
					test(t, a, b)
					if t.Failed() {
						t.Fatalf("of the classes %v and %v", a, b)
					}
				}
			}
		}
	}
}
