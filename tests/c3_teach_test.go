package tests

import (
	"slices"
	"testing"

	"loop.example/shatteredsets/impl"
)

func TestIsTeaching(t *testing.T) {
	each(t, func(t *testing.T, c impl.Class) {
		for u := range 1 << c.N {
			for s := range 1 << c.N {
				want := slices.Contains(c.Sets, u) && tells(c.Sets, u, s)
				if got := impl.IsTeaching(c, u, s); got != want {
					t.Errorf("IsTeaching %d, %d = %v", u, s, got)
				}
			}
		}
	})
}

func TestFirstTeaching(t *testing.T) {
	each(t, func(t *testing.T, c impl.Class) {
		for _, u := range c.Sets {
			want := fewest(c.N, c.Sets, u)
			if s, ok := impl.FirstTeaching(c, u); s != want || !ok {
				t.Errorf("FirstTeaching %d = %d, %v, not %d", u, s, ok, want)
			}
			if got := impl.TeachingNumber(c, u); got != sizes(want) {
				t.Errorf("TeachingNumber %d = %d, not %d", u, got, sizes(want))
			}
		}
	})
}

func TestTeachingNumbers(t *testing.T) {
	each(t, func(t *testing.T, c impl.Class) {
		numbers := numbered(c.N, c.Sets)
		if got := impl.TeachingNumbers(c); !slices.Equal(got, numbers) {
			t.Errorf("TeachingNumbers = %v, not %v", got, numbers)
		}
		least, greatest := -1, -1
		if len(numbers) > 0 {
			least, greatest = slices.Min(numbers), slices.Max(numbers)
		}
		if got := impl.TeachingDimension(c); got != greatest {
			t.Errorf("TeachingDimension = %d, not %d", got, greatest)
		}
		if got := impl.EasiestTeaching(c); got != least {
			t.Errorf("EasiestTeaching = %d, not %d", got, least)
		}
	})
}

func TestLayersAndPlan(t *testing.T) {
	most, single := 0, 0
	each(t, func(t *testing.T, c impl.Class) {
		layers, plan := layered(c), planned(c)
		if got := impl.LayersOf(c); !sameLists(got, layers) {
			t.Errorf("LayersOf = %v, not %v", got, layers)
		}
		if got := impl.TeachingPlan(c); !slices.Equal(got, plan) {
			t.Errorf("TeachingPlan = %v, not %v", got, plan)
		}
		greatest := -1
		for i, layer := range layers {
			rest := slices.Concat(layers[i:]...)
			greatest = max(greatest, sizes(fewest(c.N, rest, layer[0])))
		}
		if got := impl.RecursiveDimension(c); got != greatest {
			t.Errorf("RecursiveDimension = %d, not %d", got, greatest)
		}
		most = max(most, len(layers))
		if len(layers) == 1 && len(c.Sets) > 1 {
			single++
		}
	})
	if most < 8 || single < 50 {
		t.Errorf("at most %d layers, and just %d classes of one layer", most, single)
	}
}

func TestLearnPlan(t *testing.T) {
	none, several := 0, 0
	each(t, func(t *testing.T, c impl.Class) {
		layers := layered(c)
		for _, list := range samples(c) {
			want, fine := learned(layers, list)
			if s, ok := impl.LearnPlan(c, list); s != want || ok != fine {
				t.Errorf("LearnPlan %v = %d, %v, not %d, %v", list, s, ok, want, fine)
			}
			fit := 0
			for _, layer := range layers {
				fit += min(1, len(fitting(layer, list)))
			}
			if fit == 0 {
				none++
			} else if fit > 1 {
				several++
			}
		}
	})
	if none < 1000 || several < 1000 {
		t.Errorf("%d samples fit none, and sets of several layers fit %d", none, several)
	}
}

// leastTeachings returns what TeachingsOf is to return of one of Sets: those that teach, and have no other one as their part.
func leastTeachings(c impl.Class, u int) []int {
	var out []int
	for s := range 1 << c.N {
		lesser := false
		for p := range s {
			lesser = lesser || part(p, s) && tells(c.Sets, u, p)
		}
		if tells(c.Sets, u, s) && !lesser {
			out = append(out, s)
		}
	}
	return out
}

func TestTeachingsOf(t *testing.T) {
	several := 0
	each(t, func(t *testing.T, c impl.Class) {
		for _, u := range c.Sets {
			want := leastTeachings(c, u)
			if got := impl.TeachingsOf(c, u); !slices.Equal(got, want) {
				t.Errorf("TeachingsOf %d = %v, not %v", u, got, want)
			}
			if len(want) > 1 {
				several++
			}
		}
	})
	if several < 1000 {
		t.Errorf("just %d sets have several", several)
	}
}

func TestStarNumber(t *testing.T) {
	greater := 0
	each(t, func(t *testing.T, c impl.Class) {
		want := brightest(c)
		if got := impl.StarNumber(c); got != want {
			t.Errorf("StarNumber = %d, not %d", got, want)
		}
		if want > impl.VCDimension(c) {
			greater++
		}
	})
	if greater < 100 {
		t.Errorf("just %d classes have a star that is greater than what is shattered", greater)
	}
}

func TestTeachingByHand(t *testing.T) {
	for _, x := range []struct {
		c               impl.Class
		numbers         []int
		layers          [][]int
		plan            []int
		recursive, star int
	}{
		{at(0), nil, nil, nil, -1, -1},
		{at(5), nil, nil, nil, -1, -1},
		{at(0, 0), []int{0}, [][]int{{0}}, []int{0}, 0, 0},
		{at(5, 21), []int{0}, [][]int{{21}}, []int{0}, 0, 0},
		{at(1, 0, 1), []int{1, 1}, [][]int{{0, 1}}, []int{1, 1}, 1, 1},
		// Just the greatest point tells both.
		{at(5, 15, 31), []int{1, 1}, [][]int{{15, 31}}, []int{16, 16}, 1, 1},
		// One point teaches each set but the empty one, which all points teach alone.
		{at(3, 0, 1, 2, 4), []int{3, 1, 1, 1}, [][]int{{1, 2, 4}, {0}}, []int{0, 1, 2, 4}, 1, 3},
		{at(5, 0, 1, 2, 4, 8, 16), []int{5, 1, 1, 1, 1, 1}, [][]int{{1, 2, 4, 8, 16}, {0}}, []int{0, 1, 2, 4, 8, 16}, 1, 5},
		{at(3, 1, 2, 4), []int{1, 1, 1}, [][]int{{1, 2, 4}}, []int{1, 2, 4}, 1, 2},
		// Steps are taken off at both ends.
		{at(3, 0, 1, 3, 7), []int{1, 2, 2, 1}, [][]int{{0, 7}, {1, 3}}, []int{1, 2, 2, 4}, 1, 2},
		{at(5, 0, 1, 3, 7, 15, 31), []int{1, 2, 2, 2, 2, 1}, [][]int{{0, 31}, {1, 15}, {3, 7}}, []int{1, 2, 4, 4, 8, 16}, 1, 2},
		{at(2, 0, 1, 2, 3), []int{2, 2, 2, 2}, [][]int{{0, 1, 2, 3}}, []int{3, 3, 3, 3}, 2, 2},
		{at(3, 0, 3, 5, 6), []int{2, 2, 2, 2}, [][]int{{0, 3, 5, 6}}, []int{3, 3, 3, 3}, 2, 2},
		{at(2, 0, 1, 2), []int{2, 1, 1}, [][]int{{1, 2}, {0}}, []int{0, 1, 2}, 1, 2},
		{at(3, 0, 1, 2, 3, 4, 5, 6), []int{3, 3, 3, 2, 3, 2, 2}, [][]int{{3, 5, 6}, {1, 2, 4}, {0}}, []int{0, 1, 2, 3, 4, 5, 6}, 2, 3},
	} {
		if got := impl.TeachingNumbers(x.c); !slices.Equal(got, x.numbers) {
			t.Errorf("TeachingNumbers of %v = %v", x.c, got)
		}
		if got := impl.LayersOf(x.c); !sameLists(got, x.layers) {
			t.Errorf("LayersOf %v = %v", x.c, got)
		}
		if got := impl.TeachingPlan(x.c); !slices.Equal(got, x.plan) {
			t.Errorf("TeachingPlan of %v = %v", x.c, got)
		}
		if impl.RecursiveDimension(x.c) != x.recursive || impl.StarNumber(x.c) != x.star {
			t.Errorf("RecursiveDimension of %v = %d, StarNumber = %d", x.c, impl.RecursiveDimension(x.c), impl.StarNumber(x.c))
		}
	}
}

func TestAllSetsAreHardToTeach(t *testing.T) {
	for n := range impl.MaxN + 1 {
		c := coded(n, 1<<(1<<n)-1)
		for _, u := range c.Sets {
			if s, ok := impl.FirstTeaching(c, u); s != whole(c) || !ok || !slices.Equal(impl.TeachingsOf(c, u), []int{whole(c)}) {
				t.Errorf("FirstTeaching %d of %d points = %d, %v", u, n, s, ok)
			}
		}
		if impl.TeachingDimension(c) != n || impl.EasiestTeaching(c) != n || impl.RecursiveDimension(c) != n || impl.StarNumber(c) != n {
			t.Errorf("numbers of all sets of %d points", n)
		}
		if got := impl.LayersOf(c); !sameLists(got, [][]int{c.Sets}) {
			t.Errorf("LayersOf all sets of %d points = %v", n, got)
		}
		if s, ok := impl.LearnPlan(c, nil); s != 0 || !ok {
			t.Errorf("LearnPlan of all sets of %d points = %d, %v", n, s, ok)
		}
	}
}

func TestTeachingsByHand(t *testing.T) {
	for _, x := range []struct {
		c     impl.Class
		t     int
		first int
		all   []int
	}{
		{at(0, 0), 0, 0, []int{0}},
		{at(5, 21), 21, 0, []int{0}},
		{at(3, 0, 7), 7, 1, []int{1, 2, 4}},
		{at(3, 0, 6), 0, 2, []int{2, 4}},
		{at(3, 0, 1, 2, 4), 0, 7, []int{7}},
		{at(3, 0, 1, 2, 4), 4, 4, []int{4}},
		{at(3, 0, 3, 5, 6), 0, 3, []int{3, 5, 6}},
		{at(3, 0, 1, 3, 7), 1, 3, []int{3}},
		// One point is fewer than two, even if two are a lesser number.
		{at(4, 0, 1, 2, 3, 12), 12, 4, []int{4, 8}},
		{at(3, 0, 1, 2, 7), 7, 4, []int{3, 4}},
	} {
		if s, ok := impl.FirstTeaching(x.c, x.t); s != x.first || !ok {
			t.Errorf("FirstTeaching %d of %v = %d, %v", x.t, x.c, s, ok)
		}
		if got := impl.TeachingsOf(x.c, x.t); !slices.Equal(got, x.all) {
			t.Errorf("TeachingsOf %d of %v = %v", x.t, x.c, got)
		}
	}
}

func TestLearnPlanByHand(t *testing.T) {
	ones := at(3, 0, 1, 2, 4)   // layers {1, 2, 4} and {0}
	steps := at(3, 0, 1, 3, 7)  // layers {0, 7} and {1, 3}
	square := at(2, 0, 1, 2, 3) // one layer
	threes := at(3, 1, 3, 5, 6) // layers {6}, {3, 5} and {1}
	for _, x := range []struct {
		c    impl.Class
		list []impl.Example
		want int
		ok   bool
	}{
		{ones, nil, 0, true},
		{ones, []impl.Example{told(1, true)}, 2, true},
		{ones, []impl.Example{told(1, false)}, 0, true},
		{ones, []impl.Example{told(0, true), told(1, true)}, 0, false},
		{ones, []impl.Example{told(2, true), told(2, false)}, 0, false},
		{steps, nil, 1, true},
		{steps, []impl.Example{told(1, true)}, 3, true},
		{steps, []impl.Example{told(0, true), told(0, true)}, 1, true},
		{steps, []impl.Example{told(0, false)}, 0, true},
		{steps, []impl.Example{told(2, true)}, 7, true},
		{steps, []impl.Example{told(0, false), told(2, true)}, 0, false},
		{square, nil, 0, true},
		{square, []impl.Example{told(1, true)}, 2, true},
		{threes, nil, 1, true},
		{threes, []impl.Example{told(1, true)}, 3, true},
		{threes, []impl.Example{told(2, true)}, 5, true},
		{threes, []impl.Example{told(0, false)}, 6, true},
		{at(3), nil, 0, false},
		{at(0), nil, 0, false},
		{at(0, 0), nil, 0, true},
		{at(5, 21), []impl.Example{told(4, true)}, 21, true},
		{at(5, 21), []impl.Example{told(4, false)}, 0, false},
	} {
		if s, ok := impl.LearnPlan(x.c, x.list); s != x.want || ok != x.ok {
			t.Errorf("LearnPlan %v of %v = %d, %v", x.list, x.c, s, ok)
		}
	}
}
