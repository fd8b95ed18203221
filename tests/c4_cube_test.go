package tests

import (
	"math"
	"slices"
	"testing"

	"loop.example/shatteredsets/impl"
)

func TestEdgesOf(t *testing.T) {
	each(t, func(t *testing.T, c impl.Class) {
		if got, want := impl.EdgesOf(c), edged(c); !slices.Equal(got, want) {
			t.Errorf("EdgesOf = %v, not %v", got, want)
		}
	})
}

func TestDistanceIn(t *testing.T) {
	detours, apart := 0, 0
	each(t, func(t *testing.T, c impl.Class) {
		steps, isometric := stepped(c), true
		for i, a := range c.Sets {
			for j, b := range c.Sets {
				want := steps[i][j]
				if want == never {
					want = -1
					apart++
				} else if want > sizes(a^b) {
					detours++
				}
				isometric = isometric && want == sizes(a^b)
				if got := impl.DistanceIn(c, a, b); got != want {
					t.Errorf("DistanceIn %d, %d = %d, not %d", a, b, got, want)
				}
			}
		}
		if got := impl.IsIsometric(c); got != isometric {
			t.Errorf("IsIsometric = %v", got)
		}
	})
	if detours < 1000 || apart < 1000 {
		t.Errorf("just %d distances are more than what differs, and %d are none", detours, apart)
	}
}

func TestComponentsOf(t *testing.T) {
	several := 0
	each(t, func(t *testing.T, c impl.Class) {
		want := parts(c)
		if got := impl.ComponentsOf(c); got != want {
			t.Errorf("ComponentsOf = %d, not %d", got, want)
		}
		// Neither all sets are apart, nor all but two neighbours.
		if want > 1 && want < len(c.Sets)-1 {
			several++
		}
	})
	if several < 200 {
		t.Errorf("just %d classes are in several parts", several)
	}
}

func TestCubesOf(t *testing.T) {
	each(t, func(t *testing.T, c impl.Class) {
		want := cubed(c)
		if got := impl.CubesOf(c); !slices.Equal(got, want) {
			t.Errorf("CubesOf = %v, not %v", got, want)
		}
		counts, number := make([]int, c.N+1), 0
		for _, cube := range want {
			counts[sizes(cube.B)]++
		}
		for k, count := range counts {
			number += count * (1 - k%2*2)
		}
		if got := impl.CubeCounts(c); !slices.Equal(got, counts) {
			t.Errorf("CubeCounts = %v, not %v", got, counts)
		}
		if got := impl.EulerOf(c); got != number {
			t.Errorf("EulerOf = %d, not %d", got, number)
		}
	})
}

func TestOutdegreeOf(t *testing.T) {
	each(t, func(t *testing.T, c impl.Class) {
		want := outdegree(c)
		if len(c.Sets) <= 10 && want != densest(c) {
			t.Fatalf("the tests expect %d and %d", want, densest(c))
		}
		if got := impl.OutdegreeOf(c); got != want {
			t.Errorf("OutdegreeOf = %d, not %d", got, want)
		}
	})
}

// TestOutdegreeOfDenseParts is of classes of which some sets have more edges to each other than all sets have.
func TestOutdegreeOfDenseParts(t *testing.T) {
	cube := []int{0, 1, 2, 3, 4, 5, 6, 7}
	for _, x := range []struct {
		c    impl.Class
		want int
	}{
		{at(5, cube...), 2},
		{at(5, append(slices.Clone(cube), 24)...), 2},
		{at(5, append(slices.Clone(cube), 9, 18, 24, 30)...), 2},
		{coded(5, 0xffff|1<<31), 2},
		{coded(5, 1<<32-1), 3},
		// Two edges of each set, given all round, are one for each; one more edge is too many.
		{at(3, 1, 2, 3, 4, 5, 6), 1},
		{at(3, 0, 1, 2, 3, 4, 5, 6), 2},
	} {
		if got := impl.OutdegreeOf(x.c); got != x.want {
			t.Errorf("OutdegreeOf %v = %d, not %d", x.c, got, x.want)
		}
	}
}

func TestCubesByHand(t *testing.T) {
	even := []int{0, 3, 5, 6}
	for _, x := range []struct {
		c                  impl.Class
		edges              []impl.Pair
		isometric          bool
		parts, euler, most int
		counts             []int
	}{
		{at(0), nil, true, 0, 0, 0, []int{0}},
		{at(0, 0), nil, true, 1, 1, 0, []int{1}},
		{at(5), nil, true, 0, 0, 0, []int{0, 0, 0, 0, 0, 0}},
		{at(5, 21), nil, true, 1, 1, 0, []int{1, 0, 0, 0, 0, 0}},
		{at(1, 0, 1), []impl.Pair{{A: 0, B: 1}}, true, 1, 1, 1, []int{2, 1}},
		{at(2, 0, 1, 2, 3), []impl.Pair{{A: 0, B: 1}, {A: 0, B: 2}, {A: 1, B: 3}, {A: 2, B: 3}}, true, 1, 1, 1, []int{4, 4, 1}},
		{at(3, even...), nil, false, 4, 4, 0, []int{4, 0, 0, 0}},
		{at(3, 0, 3, 7), []impl.Pair{{A: 3, B: 7}}, false, 2, 2, 1, []int{3, 1, 0, 0}},
		{at(2, 0, 3), nil, false, 2, 2, 0, []int{2, 0, 0}},
		// A ring, and one that goes a long way round.
		{at(3, 1, 2, 3, 4, 5, 6), []impl.Pair{{A: 1, B: 3}, {A: 1, B: 5}, {A: 2, B: 3}, {A: 2, B: 6}, {A: 4, B: 5}, {A: 4, B: 6}}, true, 1, 0, 1, []int{6, 6, 0, 0}},
		{at(3, 0, 3, 4, 6, 7), []impl.Pair{{A: 0, B: 4}, {A: 3, B: 7}, {A: 4, B: 6}, {A: 6, B: 7}}, false, 1, 1, 1, []int{5, 4, 0, 0}},
		{at(3, 0, 1, 2, 3, 4, 5, 6), []impl.Pair{{A: 0, B: 1}, {A: 0, B: 2}, {A: 0, B: 4}, {A: 1, B: 3}, {A: 1, B: 5}, {A: 2, B: 3}, {A: 2, B: 6}, {A: 4, B: 5}, {A: 4, B: 6}}, true, 1, 1, 2, []int{7, 9, 3, 0}},
		{at(3, 0, 1, 2, 3, 4, 5, 6, 7), []impl.Pair{{A: 0, B: 1}, {A: 0, B: 2}, {A: 0, B: 4}, {A: 1, B: 3}, {A: 1, B: 5}, {A: 2, B: 3}, {A: 2, B: 6}, {A: 3, B: 7}, {A: 4, B: 5}, {A: 4, B: 6}, {A: 5, B: 7}, {A: 6, B: 7}}, true, 1, 1, 2, []int{8, 12, 6, 1}},
	} {
		if got := impl.EdgesOf(x.c); !slices.Equal(got, x.edges) {
			t.Errorf("EdgesOf %v = %v", x.c, got)
		}
		if impl.IsIsometric(x.c) != x.isometric || impl.ComponentsOf(x.c) != x.parts {
			t.Errorf("IsIsometric %v = %v, ComponentsOf = %d", x.c, impl.IsIsometric(x.c), impl.ComponentsOf(x.c))
		}
		if impl.EulerOf(x.c) != x.euler || impl.OutdegreeOf(x.c) != x.most || !slices.Equal(impl.CubeCounts(x.c), x.counts) {
			t.Errorf("EulerOf %v = %d, OutdegreeOf = %d, CubeCounts = %v", x.c, impl.EulerOf(x.c), impl.OutdegreeOf(x.c), impl.CubeCounts(x.c))
		}
	}
}

func TestDistancesByHand(t *testing.T) {
	long := at(3, 0, 3, 4, 6, 7)
	snake := at(4, 0, 1, 3, 7, 6, 14, 12, 8)
	slices.Sort(snake.Sets)
	for _, x := range []struct {
		c    impl.Class
		a, b int
		want int
	}{
		{long, 0, 3, 4}, {long, 3, 0, 4}, {long, 3, 4, 3}, {long, 7, 7, 0},
		{snake, 0, 6, 4}, {snake, 1, 12, 3}, {snake, 7, 8, 4},
		{at(3, 0, 7), 0, 7, -1}, {at(3, 0, 7), 7, 7, 0},
		{at(0, 0), 0, 0, 0}, {at(5, 31), 31, 31, 0}, {at(5, 0, 31), 31, 0, -1},
		{coded(5, 1<<32-1), 0, 31, 5},
	} {
		if got := impl.DistanceIn(x.c, x.a, x.b); got != x.want {
			t.Errorf("DistanceIn %v, %d, %d = %d, not %d", x.c, x.a, x.b, got, x.want)
		}
	}
}

func TestCubesOfOneSetAndOfAllPoints(t *testing.T) {
	for n := range impl.MaxN + 1 {
		for s := range 1 << n {
			if got := impl.CubesOf(at(n, s)); !slices.Equal(got, []impl.Pair{{A: s, B: 0}}) {
				t.Errorf("CubesOf the set %d of %d points = %v", s, n, got)
			}
		}
		all := coded(n, 1<<(1<<n)-1)
		got := impl.CubesOf(all)
		if len(got) != int(math.Pow(3, float64(n))) || !slices.Contains(got, impl.Pair{A: 0, B: whole(all)}) || got[len(got)-1] != (impl.Pair{A: whole(all), B: 0}) {
			t.Errorf("CubesOf all sets of %d points = %v", n, got)
		}
		if counts := impl.CubeCounts(all); counts[n] != 1 || counts[0] != 1<<n || impl.EulerOf(all) != 1 {
			t.Errorf("CubeCounts of all sets of %d points = %v", n, counts)
		}
	}
}

func TestIsRepresentation(t *testing.T) {
	holds, fails := 0, 0
	each(t, func(t *testing.T, c impl.Class) {
		for _, plan := range plans(c) {
			want := !clashes(c.Sets, plan)
			if got := impl.IsRepresentation(c, plan); got != want {
				t.Errorf("IsRepresentation %v = %v", plan, got)
			}
			if want {
				holds++
			} else {
				fails++
			}
		}
	})
	if holds < 1000 || fails < 1000 {
		t.Errorf("%d plans have no clashes, and %d have some", holds, fails)
	}
}

// TestAllPlans is of all plans of each class that has few of them.
func TestAllPlans(t *testing.T) {
	each(t, func(t *testing.T, c impl.Class) {
		if c.N*len(c.Sets) > 12 {
			return
		}
		first := make([][]int, c.N+1)
		for _, plan := range allPlans(c) {
			want := !clashes(c.Sets, plan)
			if got := impl.IsRepresentation(c, plan); got != want {
				t.Errorf("IsRepresentation %v = %v", plan, got)
			}
			for most := max(0, largest(plan)); want && most <= c.N; most++ {
				if first[most] == nil {
					first[most] = plan
				}
			}
		}
		for most, plan := range first {
			if got, ok := impl.FirstRepresentation(c, most); !slices.Equal(got, plan) || ok != (plan != nil) {
				t.Errorf("FirstRepresentation %d = %v, %v, not %v", most, got, ok, plan)
			}
		}
	})
}

func TestFirstRepresentation(t *testing.T) {
	numbers := map[int]int{}
	each(t, func(t *testing.T, c impl.Class) {
		if len(c.Sets) > impl.MaxFew {
			return
		}
		least := -1
		for most := -2; most <= impl.MaxN+2; most++ {
			want, fine := represented(c, most, nil)
			if got, ok := impl.FirstRepresentation(c, most); !slices.Equal(got, want) || ok != fine {
				t.Errorf("FirstRepresentation %d = %v, %v, not %v", most, got, ok, want)
			}
			if fine && most >= 0 && least < 0 {
				least = most
			}
		}
		if got := impl.RepresentationNumber(c); got != least {
			t.Errorf("RepresentationNumber = %d, not %d", got, least)
		}
		numbers[least]++
	})
	if numbers[0] < 20 || numbers[1] < 200 || numbers[2] < 20 {
		t.Errorf("so many classes have each number: %v", numbers)
	}
}

func TestPlansByHand(t *testing.T) {
	for _, x := range []struct {
		c    impl.Class
		most int
		plan []int
		ok   bool
	}{
		{at(0), 0, nil, true}, {at(0), -1, nil, true}, {at(5), math.MinInt, nil, true}, {at(3), math.MaxInt, nil, true},
		{at(0, 0), 0, []int{0}, true}, {at(0, 0), -1, nil, false}, {at(0, 0), 1, []int{0}, true},
		{at(5, 21), 0, []int{0}, true}, {at(5, 21), math.MaxInt, []int{0}, true}, {at(5, 21), math.MinInt, nil, false},
		{at(1, 0, 1), 0, nil, false}, {at(1, 0, 1), 1, []int{0, 1}, true}, {at(1, 0, 1), 2, []int{0, 1}, true},
		{at(2, 0, 1, 2, 3), 1, []int{1, 2, 2, 1}, true}, {at(2, 0, 1, 2, 3), 2, []int{0, 1, 2, 3}, true},
		{at(3, 0, 3, 5, 6), 1, []int{0, 1, 4, 2}, true},
		{at(3, 0, 1, 2, 4), 1, []int{0, 1, 2, 4}, true}, {at(3, 0, 1, 2, 4), 3, []int{0, 1, 2, 4}, true},
		// Just the greatest point tells both, and just one of them needs it.
		{at(5, 15, 31), 1, []int{0, 16}, true}, {at(5, 15, 31), 5, []int{0, 16}, true},
	} {
		if plan, ok := impl.FirstRepresentation(x.c, x.most); !slices.Equal(plan, x.plan) || ok != x.ok {
			t.Errorf("FirstRepresentation %v, %d = %v, %v", x.c, x.most, plan, ok)
		}
	}
}

// TestMaxFew is of classes with just as many sets as plans are looked for, and one more.
func TestMaxFew(t *testing.T) {
	for n := 3; n <= impl.MaxN; n++ {
		for start := range 1<<n - impl.MaxFew {
			c := coded(n, 1<<(impl.MaxFew+start)-1<<start)
			plan, ok := impl.FirstRepresentation(c, n)
			if len(c.Sets) != impl.MaxFew || len(plan) != impl.MaxFew || !ok || !impl.IsRepresentation(c, plan) || impl.RepresentationNumber(c) < 0 {
				t.Errorf("FirstRepresentation of %v = %v, %v", c, plan, ok)
			}
			more := coded(n, 1<<(impl.MaxFew+1+start)-1<<start)
			for most := -1; most <= n+1; most++ {
				if plan, ok := impl.FirstRepresentation(more, most); len(plan) > 0 || ok {
					t.Errorf("FirstRepresentation of %v = %v, %v", more, plan, ok)
				}
			}
			if got := impl.RepresentationNumber(more); got != -1 {
				t.Errorf("RepresentationNumber of %v = %d", more, got)
			}
			// Plans of more sets hold, and are learned, all the same.
			if !impl.IsRepresentation(more, planned(more)) {
				t.Errorf("IsRepresentation of %v", more)
			}
			last := more.Sets[impl.MaxFew]
			if s, ok := impl.LearnRepresentation(more, planned(more), labels(t, more, last, whole(more))); s != last || !ok {
				t.Errorf("LearnRepresentation of %v = %d, %v", more, s, ok)
			}
		}
	}
}

func TestLearnRepresentation(t *testing.T) {
	found, none := 0, 0
	each(t, func(t *testing.T, c impl.Class) {
		list := samples(c)
		for _, plan := range plans(c) {
			holds := !clashes(c.Sets, plan)
			for _, sample := range list {
				want, fine := shown(c, plan, sample)
				if !holds {
					want, fine = 0, false
				}
				if s, ok := impl.LearnRepresentation(c, plan, sample); s != want || ok != fine {
					t.Errorf("LearnRepresentation %v, %v = %d, %v, not %d, %v", plan, sample, s, ok, want, fine)
				}
				if fine {
					found++
				} else if holds && len(fitting(c.Sets, sample)) > 0 {
					none++
				}
			}
		}
	})
	if found < 1000 || none < 1000 {
		t.Errorf("%d samples tell a set, and of %d that some fit nothing is told", found, none)
	}
}

func TestLearnRepresentationByHand(t *testing.T) {
	square, plan := at(2, 0, 1, 2, 3), []int{0, 1, 2, 3}
	for _, x := range []struct {
		c    impl.Class
		plan []int
		list []impl.Example
		want int
		ok   bool
	}{
		{square, plan, nil, 0, true},
		{square, plan, []impl.Example{told(0, true)}, 1, true},
		{square, plan, []impl.Example{told(1, true)}, 2, true},
		{square, plan, []impl.Example{told(1, true), told(0, true)}, 3, true},
		{square, plan, []impl.Example{told(1, true), told(1, false)}, 0, false},
		{square, []int{1, 2, 2, 1}, nil, 0, false},
		{square, []int{1, 2, 2, 1}, []impl.Example{told(0, true)}, 3, true},
		{square, []int{1, 2, 2, 1}, []impl.Example{told(1, true)}, 2, true},
		// A plan with clashes tells nothing, not even a set that it tells from all others.
		{square, []int{0, 0, 3, 3}, []impl.Example{told(0, true), told(1, true)}, 0, false},
		{square, []int{0, 0, 0, 0}, nil, 0, false},
		{at(3), nil, nil, 0, false}, {at(0), []int{}, nil, 0, false},
		{at(0, 0), []int{0}, nil, 0, true},
		{at(5, 21), []int{0}, nil, 21, true},
		{at(5, 21), []int{31}, nil, 0, false},
		{at(5, 21), []int{0}, []impl.Example{told(4, true)}, 21, true},
		{at(5, 21), []int{0}, []impl.Example{told(4, false)}, 0, false},
		{at(5, 21), []int{16}, []impl.Example{told(3, false)}, 0, false},
		{at(5, 21), []int{16}, []impl.Example{told(3, false), told(4, true)}, 21, true},
	} {
		if s, ok := impl.LearnRepresentation(x.c, x.plan, x.list); s != x.want || ok != x.ok {
			t.Errorf("LearnRepresentation %v, %v, %v = %d, %v", x.c, x.plan, x.list, s, ok)
		}
	}
}
