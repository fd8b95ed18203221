package tests

import (
	"math"
	"slices"
	"testing"

	"loop.example/shatteredsets/impl"
)

// invalidSteps checks what DistanceIn returns of numbers that are not both among the sets of a valid class.
func invalidSteps(t *testing.T, c impl.Class, a int, b int) {
	t.Helper()
	if got := impl.DistanceIn(c, a, b); got != -1 {
		t.Errorf("DistanceIn %v, %d, %d = %d", c, a, b, got)
	}
}

// invalidPlan checks what functions return of a plan without sense.
func invalidPlan(t *testing.T, c impl.Class, plan []int, list []impl.Example) {
	t.Helper()
	if impl.IsRepresentation(c, plan) {
		t.Errorf("IsRepresentation %v, %v", c, plan)
	}
	invalidShown(t, c, plan, list)
}

func invalidShown(t *testing.T, c impl.Class, plan []int, list []impl.Example) {
	t.Helper()
	if s, ok := impl.LearnRepresentation(c, plan, list); s != 0 || ok {
		t.Errorf("LearnRepresentation %v, %v, %v = %d, %v", c, plan, list, s, ok)
	}
}

// filled returns a plan of some equal sets.
func filled(length int, s int) []int {
	return slices.Repeat([]int{s}, length)
}

func TestInvalidClassesOfCubes(t *testing.T) {
	for _, c := range invalidClasses() {
		if len(impl.EdgesOf(c)) > 0 || len(impl.CubesOf(c)) > 0 || len(impl.CubeCounts(c)) > 0 {
			t.Errorf("lists of %v", c)
		}
		if impl.IsIsometric(c) || impl.ComponentsOf(c) != -1 || impl.EulerOf(c) != 0 || impl.OutdegreeOf(c) != -1 {
			t.Errorf("numbers of %v", c)
		}
		numbers := append(slices.Clone(c.Sets), 0, 1, 3, -1, 64, math.MinInt, math.MaxInt)
		for _, a := range numbers {
			for _, b := range numbers {
				invalidSteps(t, c, a, b)
			}
		}
	}
}

func TestInvalidClassesOfPlans(t *testing.T) {
	for _, c := range invalidClasses() {
		for _, plan := range [][]int{nil, {0}, filled(len(c.Sets), 0), filled(len(c.Sets), 1), filled(len(c.Sets), 31), slices.Clone(c.Sets)} {
			for _, list := range [][]impl.Example{nil, {told(0, true)}, {told(0, false), told(1, true)}} {
				invalidPlan(t, c, plan, list)
			}
		}
		for _, most := range []int{0, 1, 5, -1, 64, math.MinInt, math.MaxInt} {
			if plan, ok := impl.FirstRepresentation(c, most); len(plan) > 0 || ok {
				t.Errorf("FirstRepresentation %v, %d = %v, %v", c, most, plan, ok)
			}
		}
		if got := impl.RepresentationNumber(c); got != -1 {
			t.Errorf("RepresentationNumber %v = %d", c, got)
		}
	}
}

func TestStepsBetweenOthers(t *testing.T) {
	each(t, func(t *testing.T, c impl.Class) {
		others := outside(c.N)
		for s := range 1 << c.N {
			if !slices.Contains(c.Sets, s) {
				others = append(others, s)
			}
		}
		for _, a := range others {
			invalidSteps(t, c, a, a)
			invalidSteps(t, c, others[0], a)
			for _, b := range c.Sets {
				invalidSteps(t, c, a, b)
				invalidSteps(t, c, b, a)
			}
		}
	})
}

func TestInvalidPlans(t *testing.T) {
	each(t, func(t *testing.T, c impl.Class) {
		// The plan of all points has no clashes, so that it is just what is changed in it that makes it invalid.
		fine := filled(len(c.Sets), whole(c))
		if !impl.IsRepresentation(c, fine) {
			t.Errorf("IsRepresentation %v", fine)
		}
		list := []impl.Example{}
		if len(c.Sets) > 0 {
			list = labels(t, c, c.Sets[0], whole(c))
		}
		for _, length := range []int{0, len(c.Sets) - 1, len(c.Sets) + 1, 2*len(c.Sets) + 3} {
			if length >= 0 && length != len(c.Sets) {
				invalidPlan(t, c, filled(length, whole(c)), list)
			}
		}
		for _, s := range append(outside(c.N), ^0<<c.N, whole(c)|1<<c.N, math.MinInt|whole(c)) {
			for i := range fine {
				plan := slices.Clone(fine)
				plan[i] = s
				invalidPlan(t, c, plan, list)
			}
		}
	})
}

func TestInvalidSamplesOfPlans(t *testing.T) {
	each(t, func(t *testing.T, c impl.Class) {
		nothing, all := filled(len(c.Sets), 0), filled(len(c.Sets), whole(c))
		for _, plan := range [][]int{nothing, all, planned(c)} {
			for _, x := range noPoints(c.N) {
				for _, label := range []bool{false, true} {
					invalidShown(t, c, plan, []impl.Example{told(x, label)})
				}
				for _, s := range c.Sets[:min(1, len(c.Sets))] {
					invalidShown(t, c, plan, append(labels(t, c, s, whole(c)), told(x, true)))
				}
			}
			for _, length := range []int{impl.MaxSample + 1, 100} {
				invalidShown(t, c, plan, make([]impl.Example, length))
			}
		}
		if c.N > 0 && len(c.Sets) > 0 {
			s := c.Sets[0]
			list := append(labels(t, c, s, whole(c)), slices.Repeat([]impl.Example{told(0, in(s, 0))}, impl.MaxSample-c.N)...)
			if got, ok := impl.LearnRepresentation(c, all, list); got != s || !ok {
				t.Error("MaxSample examples are a sample")
			}
		}
	})
}

func TestMemoryOfCubes(t *testing.T) {
	each(t, func(t *testing.T, c impl.Class) {
		junk := impl.Pair{A: 99, B: 98}
		if shares(func() []impl.Pair { return impl.EdgesOf(c) }, junk) || shares(func() []impl.Pair { return impl.CubesOf(c) }, junk) {
			t.Error("pairs")
		}
		for name, f := range map[string]func(impl.Class) []int{
			"CubeCounts": impl.CubeCounts,
			"FirstRepresentation": func(c impl.Class) []int {
				plan, _ := impl.FirstRepresentation(c, impl.MaxN)
				return plan
			},
			"numbers": func(c impl.Class) []int {
				impl.EdgesOf(c)
				impl.CubesOf(c)
				impl.DistanceIn(c, 0, whole(c))
				impl.IsIsometric(c)
				impl.ComponentsOf(c)
				impl.EulerOf(c)
				impl.OutdegreeOf(c)
				impl.RepresentationNumber(c)
				impl.FirstRepresentation(c, 0)
				return nil
			},
		} {
			if spoils(c, f) {
				t.Error(name)
			}
		}
	})
}

func TestMemoryOfPlans(t *testing.T) {
	each(t, func(t *testing.T, c impl.Class) {
		for _, plan := range plans(c) {
			for _, list := range samples(c) {
				c.Sets, plan, list = roomy(c.Sets, 77), roomy(plan, 77), roomy(list, told(77, true))
				sets, points, examples := slices.Clone(whichever(c.Sets)), slices.Clone(whichever(plan)), slices.Clone(whichever(list))
				impl.IsRepresentation(c, plan)
				impl.LearnRepresentation(c, plan, list)
				if !slices.Equal(whichever(c.Sets), sets) || !slices.Equal(whichever(plan), points) || !slices.Equal(whichever(list), examples) {
					t.Fatalf("the plan %v and the sample %v are changed", plan, list)
				}
			}
		}
	})
}
