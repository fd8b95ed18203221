package tests

import (
	"slices"

	"loop.example/shatteredsets/impl"
)

// alike reports whether two sets have the same points of a third one.
func alike(t int, u int, s int) bool {
	for x := range impl.MaxN {
		if in(s, x) && in(t, x) != in(u, x) {
			return false
		}
	}
	return true
}

// tells tells what IsTeaching is to tell of some sets.
func tells(sets []int, t int, s int) bool {
	var found []int
	for _, u := range sets {
		if alike(t, u, s) {
			found = append(found, u)
		}
	}
	return slices.Equal(found, []int{t})
}

// fewest returns what FirstTeaching is to return of one of some sets of n points.
func fewest(n int, sets []int, t int) int {
	for k := range n + 1 {
		for s := range 1 << n {
			if sizes(s) == k && tells(sets, t, s) {
				return s
			}
		}
	}
	panic("all points teach a set")
}

// numbered returns what TeachingNumbers is to return of some sets of n points.
func numbered(n int, sets []int) []int {
	var out []int
	for _, t := range sets {
		out = append(out, sizes(fewest(n, sets, t)))
	}
	return out
}

// layered returns what LayersOf is to return.
func layered(c impl.Class) [][]int {
	if len(c.Sets) == 0 {
		return nil
	}
	numbers := numbered(c.N, c.Sets)
	var layer, behind []int
	for i, t := range c.Sets {
		if numbers[i] == slices.Min(numbers) {
			layer = append(layer, t)
		} else {
			behind = append(behind, t)
		}
	}
	return append([][]int{layer}, layered(at(c.N, behind...))...)
}

// planned returns what TeachingPlan is to return.
func planned(c impl.Class) []int {
	layers := layered(c)
	var out []int
	for _, t := range c.Sets {
		i := slices.IndexFunc(layers, func(layer []int) bool { return slices.Contains(layer, t) })
		out = append(out, fewest(c.N, slices.Concat(layers[i:]...), t))
	}
	return out
}

// learned returns what LearnPlan is to return by the layers.
func learned(layers [][]int, list []impl.Example) (int, bool) {
	for i := len(layers) - 1; i >= 0; i-- {
		if fit := fitting(layers[i], list); len(fit) > 0 {
			return fit[0], true
		}
	}
	return 0, false
}

// starred reports whether some sets have a star of one of them along a set.
func starred(sets []int, t int, s int) bool {
	for x := range impl.MaxN {
		if in(s, x) && !slices.ContainsFunc(sets, func(u int) bool { return (t^u)&s == 1<<x }) {
			return false
		}
	}
	return true
}

// brightest returns what StarNumber is to return.
func brightest(c impl.Class) int {
	most := -1
	for s := range 1 << c.N {
		if slices.ContainsFunc(c.Sets, func(t int) bool { return starred(c.Sets, t, s) }) {
			most = max(most, sizes(s))
		}
	}
	return most
}

// sameLists reports whether two lists have the same lists.
func sameLists(a [][]int, b [][]int) bool {
	return slices.EqualFunc(a, b, slices.Equal[[]int])
}

// byOnePoint returns how many of some sets differ from t at one point.
func byOnePoint(sets []int, t int) int {
	count := 0
	for _, u := range sets {
		if sizes(t^u) == 1 {
			count++
		}
	}
	return count
}
