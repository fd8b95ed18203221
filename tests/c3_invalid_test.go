package tests

import (
	"math"
	"slices"
	"testing"

	"loop.example/shatteredsets/impl"
)

// invalidTaught checks what functions return of a number that is none of the sets of a class.
func invalidTaught(t *testing.T, c impl.Class, u int) {
	t.Helper()
	if s, ok := impl.FirstTeaching(c, u); s != 0 || ok {
		t.Errorf("FirstTeaching %d of %v = %d, %v", u, c, s, ok)
	}
	if impl.TeachingNumber(c, u) != -1 || len(impl.TeachingsOf(c, u)) > 0 {
		t.Errorf("points that teach %d of %v", u, c)
	}
	for s := range 1 << impl.MaxN {
		invalidPoints(t, c, u, s)
	}
}

func invalidPoints(t *testing.T, c impl.Class, u int, s int) {
	t.Helper()
	if impl.IsTeaching(c, u, s) {
		t.Errorf("IsTeaching %d, %d of %v", u, s, c)
	}
}

func invalidLearning(t *testing.T, c impl.Class, list []impl.Example) {
	t.Helper()
	if s, ok := impl.LearnPlan(c, list); s != 0 || ok {
		t.Errorf("LearnPlan %v of %v = %d, %v", list, c, s, ok)
	}
}

func TestInvalidClassesOfTeaching(t *testing.T) {
	for _, c := range invalidClasses() {
		for _, u := range append(slices.Clone(c.Sets), 0, 1, 3, -1, 64, math.MinInt, math.MaxInt) {
			invalidTaught(t, c, u)
			invalidPoints(t, c, u, u)
			invalidPoints(t, c, 0, u)
		}
		if len(impl.TeachingNumbers(c)) > 0 || len(impl.LayersOf(c)) > 0 || len(impl.TeachingPlan(c)) > 0 {
			t.Errorf("lists of %v", c)
		}
		if impl.TeachingDimension(c) != -1 || impl.EasiestTeaching(c) != -1 || impl.RecursiveDimension(c) != -1 || impl.StarNumber(c) != -1 {
			t.Errorf("numbers of %v", c)
		}
		for _, list := range [][]impl.Example{nil, {told(0, true)}, {told(0, false), told(1, true)}} {
			invalidLearning(t, c, list)
		}
	}
}

func TestNumbersThatAreNoSets(t *testing.T) {
	each(t, func(t *testing.T, c impl.Class) {
		for u := range 1 << c.N {
			if !slices.Contains(c.Sets, u) {
				invalidTaught(t, c, u)
			}
		}
		for _, u := range outside(c.N) {
			invalidTaught(t, c, u)
			for _, s := range outside(c.N) {
				invalidPoints(t, c, u, s)
			}
			// The sets are taught by these numbers' points that they have, but these are no sets of points.
			for _, one := range c.Sets {
				invalidPoints(t, c, one, u)
			}
		}
	})
}

func TestInvalidSamplesOfLearnPlan(t *testing.T) {
	each(t, func(t *testing.T, c impl.Class) {
		for _, x := range noPoints(c.N) {
			invalidLearning(t, c, []impl.Example{told(x, true)})
			invalidLearning(t, c, []impl.Example{told(x, false)})
			if c.N > 0 {
				invalidLearning(t, c, []impl.Example{told(0, false), told(x, false)})
			}
		}
		for _, length := range []int{impl.MaxSample + 1, 100} {
			invalidLearning(t, c, make([]impl.Example, length))
		}
		if c.N > 0 && len(c.Sets) > 0 {
			list := slices.Repeat([]impl.Example{told(0, in(c.Sets[0], 0))}, impl.MaxSample)
			if _, ok := impl.LearnPlan(c, list); !ok {
				t.Error("MaxSample examples are a sample")
			}
		}
	})
}

func TestMemoryOfTeaching(t *testing.T) {
	each(t, func(t *testing.T, c impl.Class) {
		for _, u := range append(slices.Clone(c.Sets), whole(c)+1) {
			if spoils(c, func(c impl.Class) []int { return impl.TeachingsOf(c, u) }) {
				t.Errorf("TeachingsOf %d", u)
			}
		}
		for name, f := range map[string]func(impl.Class) []int{
			"TeachingNumbers": impl.TeachingNumbers,
			"TeachingPlan":    impl.TeachingPlan,
			"LayersOf":        func(c impl.Class) []int { return slices.Concat(impl.LayersOf(c)...) },
			"numbers": func(c impl.Class) []int {
				impl.IsTeaching(c, 0, whole(c))
				impl.FirstTeaching(c, 0)
				impl.TeachingNumber(c, 0)
				impl.TeachingDimension(c)
				impl.EasiestTeaching(c)
				impl.RecursiveDimension(c)
				impl.StarNumber(c)
				return nil
			},
		} {
			if spoils(c, f) {
				t.Error(name)
			}
		}
	})
}

func TestMemoryOfLayers(t *testing.T) {
	each(t, func(t *testing.T, c impl.Class) {
		c.Sets = roomy(c.Sets, 77)
		sets := slices.Clone(whichever(c.Sets))
		want := impl.LayersOf(c)
		for i := range want {
			got := impl.LayersOf(c)
			for j := range whichever(got[i]) {
				whichever(got[i])[j] = 99
			}
			got[i] = want[i]
			if !sameLists(got, want) {
				t.Errorf("the layer %d shares memory with another one", i)
			}
		}
		if !slices.Equal(whichever(c.Sets), sets) || !sameLists(impl.LayersOf(c), want) {
			t.Error("LayersOf shares memory with the class")
		}
	})
}

func TestMemoryOfLearnPlan(t *testing.T) {
	eachSample(func(c impl.Class, list []impl.Example) bool {
		c.Sets, list = roomy(c.Sets, 77), roomy(list, told(77, true))
		sets, examples := slices.Clone(whichever(c.Sets)), slices.Clone(whichever(list))
		impl.LearnPlan(c, list)
		return slices.Equal(whichever(c.Sets), sets) && slices.Equal(whichever(list), examples)
	}, t.Errorf)
}
