package tests

import (
	"math/bits"
	"slices"

	"loop.example/shatteredsets/impl"
)

// never is more steps than any way has.
const never = 1000

// edged returns what EdgesOf is to return.
func edged(c impl.Class) []impl.Pair {
	var out []impl.Pair
	for i, a := range c.Sets {
		for _, b := range c.Sets[i+1:] {
			if sizes(a^b) == 1 {
				out = append(out, impl.Pair{A: a, B: b})
			}
		}
	}
	return out
}

// stepped returns what DistanceIn is to return of each two of Sets, by their indices; never for -1.
func stepped(c impl.Class) [][]int {
	out := make([][]int, len(c.Sets))
	for i, a := range c.Sets {
		for _, b := range c.Sets {
			steps := never
			if sizes(a^b) < 2 {
				steps = sizes(a ^ b)
			}
			out[i] = append(out[i], steps)
		}
	}
	for k := range out {
		for i := range out {
			for j := range out {
				out[i][j] = min(out[i][j], out[i][k]+out[k][j])
			}
		}
	}
	return out
}

// parts returns what ComponentsOf is to return: both sets of each edge get the same name.
func parts(c impl.Class) int {
	names := map[int]int{}
	for _, s := range c.Sets {
		names[s] = s
	}
	for _, e := range edged(c) {
		from, to := names[e.A], names[e.B]
		for _, s := range c.Sets {
			if names[s] == from {
				names[s] = to
			}
		}
	}
	different := map[int]bool{}
	for _, name := range names {
		different[name] = true
	}
	return len(different)
}

// cubed returns what CubesOf is to return.
func cubed(c impl.Class) []impl.Pair {
	var out []impl.Pair
	for a := range 1 << c.N {
		for b := range 1 << c.N {
			if a&b != 0 {
				continue
			}
			inside := 0
			for _, s := range c.Sets {
				if s&^b == a {
					inside++
				}
			}
			if inside == 1<<sizes(b) {
				out = append(out, impl.Pair{A: a, B: b})
			}
		}
	}
	return out
}

// densest returns what OutdegreeOf is to return of a class of few sets: some sets get all edges among them, and no more are due for any.
func densest(c impl.Class) int {
	near := make([]int, len(c.Sets))
	for i, a := range c.Sets {
		for j, b := range c.Sets {
			if sizes(a^b) == 1 {
				near[i] |= 1 << j
			}
		}
	}
	edges := make([]int, 1<<len(c.Sets))
	most := 0
	for some := 1; some < len(edges); some++ {
		first := bits.TrailingZeros(uint(some))
		edges[some] = edges[some&(some-1)] + sizes(near[first]&some)
		count := sizes(some)
		most = max(most, (edges[some]+count-1)/count)
	}
	return most
}

// spread reports whether all edges can be given to one of both their sets, to each of these k at most: each set is k seats, and an edge has one.
func spread(c impl.Class, k int) bool {
	edges := edged(c)
	seats := map[[2]int]int{}
	var seat func(e int, tried map[[2]int]bool) bool
	seat = func(e int, tried map[[2]int]bool) bool {
		for _, s := range []int{edges[e].A, edges[e].B} {
			for i := range k {
				at := [2]int{s, i}
				if tried[at] {
					continue
				}
				tried[at] = true
				other, sits := seats[at]
				if !sits || seat(other, tried) {
					seats[at] = e
					return true
				}
			}
		}
		return false
	}
	for e := range edges {
		if !seat(e, map[[2]int]bool{}) {
			return false
		}
	}
	return true
}

// outdegree returns what OutdegreeOf is to return.
func outdegree(c impl.Class) int {
	k := 0
	for !spread(c, k) {
		k++
	}
	return k
}

// clashes reports whether a plan leaves two of some sets the same, at the points for both.
func clashes(sets []int, plan []int) bool {
	for i := range plan {
		for j := range i {
			if alike(sets[i], sets[j], plan[i]|plan[j]) {
				return true
			}
		}
	}
	return false
}

// represented returns the least plan of at most most points each that begins as told and has no clashes.
func represented(c impl.Class, most int, begin []int) ([]int, bool) {
	if clashes(c.Sets, begin) {
		return nil, false
	}
	if len(begin) == len(c.Sets) {
		return begin, true
	}
	for s := range 1 << c.N {
		if sizes(s) > most {
			continue
		}
		if plan, ok := represented(c, most, append(slices.Clone(begin), s)); ok {
			return plan, true
		}
	}
	return nil, false
}

// allPlans returns all plans of a class, the least one first.
func allPlans(c impl.Class) [][]int {
	list := [][]int{{}}
	for range c.Sets {
		var longer [][]int
		for _, plan := range list {
			for s := range 1 << c.N {
				longer = append(longer, append(slices.Clone(plan), s))
			}
		}
		list = longer
	}
	return list
}

// largest returns the greatest number of points of a set of a plan; -1 if it has none.
func largest(plan []int) int {
	most := -1
	for _, s := range plan {
		most = max(most, sizes(s))
	}
	return most
}

// plans returns plans of a class, with clashes and without: of nothing, of all points, of the points of the sets, of those that teach, of these with a set emptied, and drawn ones.
func plans(c impl.Class) [][]int {
	nothing, all, teaching := make([]int, len(c.Sets)), make([]int, len(c.Sets)), planned(c)
	for i := range all {
		all[i] = whole(c)
	}
	list := [][]int{nothing, all, slices.Clone(c.Sets), teaching}
	if len(c.Sets) == 0 {
		return list
	}
	for _, i := range []int{0, len(c.Sets) / 2, len(c.Sets) - 1} {
		for _, full := range [][]int{all, teaching} {
			less := slices.Clone(full)
			less[i] = 0
			list = append(list, less)
		}
	}
	state := codeOf(c.Sets)
	for range 3 {
		drawn := make([]int, len(c.Sets))
		for i := range drawn {
			state = state*6364136223846793005 + 1442695040888963407
			drawn[i] = int(state>>40) & whole(c)
		}
		list = append(list, drawn)
	}
	if first, ok := impl.FirstRepresentation(c, impl.MaxN); ok {
		list = append(list, first)
	}
	return list
}

// shown returns what LearnRepresentation is to return of a plan without clashes.
func shown(c impl.Class, plan []int, list []impl.Example) (int, bool) {
	seen := 0
	for _, e := range list {
		seen |= 1 << e.Point
	}
	for i, s := range c.Sets {
		if fits(s, list) && part(plan[i], seen) {
			return s, true
		}
	}
	return 0, false
}
