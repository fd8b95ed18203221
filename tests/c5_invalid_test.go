package tests

import (
	"math"
	"slices"
	"testing"

	"loop.example/shatteredsets/impl"
)

// invalidRisk checks what functions return of a set or a sample without sense, or of a class.
func invalidRisk(t *testing.T, c impl.Class, s int, list []impl.Example) {
	t.Helper()
	if got := impl.RiskOf(c, s, list); got != -1 {
		t.Errorf("RiskOf %v, %d, %v = %d", c, s, list, got)
	}
}

func invalidBest(t *testing.T, c impl.Class, list []impl.Example) {
	t.Helper()
	if s, risk, ok := impl.BestOf(c, list); s != 0 || risk != 0 || ok {
		t.Errorf("BestOf %v, %v = %d, %d, %v", c, list, s, risk, ok)
	}
}

func invalidNearest(t *testing.T, c impl.Class, s int) {
	t.Helper()
	if u, far, ok := impl.NearestTo(c, s); u != 0 || far != 0 || ok {
		t.Errorf("NearestTo %v, %d = %d, %d, %v", c, s, u, far, ok)
	}
}

// invalidPair checks what functions return of two classes that cannot be put together, in both orders.
func invalidPair(t *testing.T, a impl.Class, b impl.Class) {
	t.Helper()
	for _, both := range [][2]impl.Class{{a, b}, {b, a}} {
		if got, ok := impl.UnionClass(both[0], both[1]); !isZero(got) || ok {
			t.Errorf("UnionClass of %v = %v, %v", both, got, ok)
		}
		if got, ok := impl.MeetClass(both[0], both[1]); !isZero(got) || ok {
			t.Errorf("MeetClass of %v = %v, %v", both, got, ok)
		}
	}
}

func invalidProduct(t *testing.T, a impl.Class, b impl.Class) {
	t.Helper()
	for _, both := range [][2]impl.Class{{a, b}, {b, a}} {
		if got, ok := impl.ProductClass(both[0], both[1]); !isZero(got) || ok {
			t.Errorf("ProductClass of %v = %v, %v", both, got, ok)
		}
	}
}

func TestInvalidClassesOfSamples(t *testing.T) {
	for _, c := range invalidClasses() {
		for _, list := range [][]impl.Example{nil, {told(0, true)}, {told(0, false), told(1, true)}} {
			invalidBest(t, c, list)
			for _, s := range append(slices.Clone(c.Sets), 0, 1, -1, 64, math.MinInt, math.MaxInt) {
				invalidRisk(t, c, s, list)
				invalidNearest(t, c, s)
			}
		}
		if impl.CoverRadius(c) != -1 || impl.PackDistance(c) != -1 || impl.NoiseSum(c) != 0 {
			t.Errorf("of %v CoverRadius = %d, PackDistance = %d, NoiseSum = %d", c, impl.CoverRadius(c), impl.PackDistance(c), impl.NoiseSum(c))
		}
	}
}

func TestInvalidSetsOfSamples(t *testing.T) {
	each(t, func(t *testing.T, c impl.Class) {
		for _, s := range outside(c.N) {
			invalidNearest(t, c, s)
			invalidRisk(t, c, s, nil)
			if c.N > 0 {
				invalidRisk(t, c, s, []impl.Example{told(0, true)})
			}
		}
	})
}

func TestInvalidSamplesOfRisks(t *testing.T) {
	each(t, func(t *testing.T, c impl.Class) {
		var lists [][]impl.Example
		for _, x := range noPoints(c.N) {
			lists = append(lists, []impl.Example{told(x, true)}, []impl.Example{told(x, false)})
			if c.N > 0 {
				fine := told(c.N-1, true)
				lists = append(lists, []impl.Example{fine, told(x, true)}, []impl.Example{told(x, false), fine})
				lists = append(lists, append(slices.Repeat([]impl.Example{fine}, impl.MaxSample-1), told(x, true)))
			}
		}
		for _, length := range []int{impl.MaxSample + 1, impl.MaxSample + 2, 100} {
			lists = append(lists, make([]impl.Example, length))
		}
		for _, list := range lists {
			invalidRisk(t, c, 0, list)
			invalidRisk(t, c, whole(c), list)
			invalidBest(t, c, list)
		}
		if c.N > 0 && impl.RiskOf(c, 1, make([]impl.Example, impl.MaxSample)) != impl.MaxSample {
			t.Error("MaxSample examples are a sample")
		}
	})
}

func TestInvalidPairs(t *testing.T) {
	for _, c := range invalidClasses() {
		for n := range impl.MaxN + 1 {
			for _, d := range notable(n) {
				invalidPair(t, c, d)
				invalidProduct(t, c, d)
			}
		}
		fine := at(c.N)
		invalidPair(t, c, fine)
		invalidProduct(t, c, fine)
		for _, d := range invalidClasses() {
			invalidPair(t, c, d)
			invalidProduct(t, c, d)
		}
	}
}

func TestPairsOfOtherPoints(t *testing.T) {
	for n := range impl.MaxN + 1 {
		for m := range impl.MaxN + 1 {
			for _, c := range notable(n) {
				for _, d := range notable(m) {
					if n != m {
						invalidPair(t, c, d)
					}
					got, ok := impl.ProductClass(c, d)
					if ok != (n+m <= impl.MaxN) || !ok && !isZero(got) {
						t.Errorf("ProductClass of %v and %v = %v, %v", c, d, got, ok)
					}
				}
			}
		}
	}
}

func TestInvalidBalls(t *testing.T) {
	wrong := []int{math.MinInt, -2, -1, impl.MaxN + 1, impl.MaxN + 2, 63, 64, math.MaxInt}
	radii := []int{math.MinInt, -1, 0, 1, impl.MaxN, 100, math.MaxInt}
	check := func(n int, s int) {
		for _, k := range radii {
			if got, ok := impl.BallClass(n, s, k); !isZero(got) || ok {
				t.Errorf("BallClass(%d, %d, %d) = %v, %v", n, s, k, got, ok)
			}
		}
	}
	for _, n := range wrong {
		for _, s := range []int{0, 1, 3, 31, 32, -1, math.MinInt, math.MaxInt} {
			check(n, s)
		}
		if got := impl.ThresholdClass(n); !isZero(got) {
			t.Errorf("ThresholdClass(%d) = %v", n, got)
		}
	}
	for n := range impl.MaxN + 1 {
		for _, s := range outside(n) {
			check(n, s)
		}
	}
}

func TestMemoryOfMeasures(t *testing.T) {
	each(t, func(t *testing.T, c impl.Class) {
		if spoils(c, func(c impl.Class) []int {
			impl.NearestTo(c, whole(c))
			impl.CoverRadius(c)
			impl.PackDistance(c)
			impl.NoiseSum(c)
			impl.RunDesk([]string{"complement " + impl.ClassText(c)})
			return nil
		}) {
			t.Error("numbers")
		}
	})
}

func TestMemoryOfRisks(t *testing.T) {
	eachSample(func(c impl.Class, list []impl.Example) bool {
		c.Sets, list = roomy(c.Sets, 77), roomy(list, told(77, true))
		sets, examples := slices.Clone(whichever(c.Sets)), slices.Clone(whichever(list))
		impl.RiskOf(c, whole(c), list)
		impl.BestOf(c, list)
		return slices.Equal(whichever(c.Sets), sets) && slices.Equal(whichever(list), examples)
	}, t.Errorf)
}

// putTogether returns all functions that put two classes together, by their names.
func putTogether() map[string]func(impl.Class, impl.Class) (impl.Class, bool) {
	return map[string]func(impl.Class, impl.Class) (impl.Class, bool){
		"UnionClass":   impl.UnionClass,
		"MeetClass":    impl.MeetClass,
		"ProductClass": impl.ProductClass,
	}
}

func TestMemoryOfPairs(t *testing.T) {
	each(t, func(t *testing.T, c impl.Class) {
		for name, f := range putTogether() {
			// Classes with which a result may be the same as the class, so that it might be the class.
			others := []impl.Class{at(c.N), allSets(c.N), coded(c.N, codeOf(c.Sets)), at(0, 0), at(0), at(1), at(impl.MaxN)}
			for _, d := range others {
				if spoils(c, func(c impl.Class) []int { e, _ := f(c, d); return e.Sets }) || spoils(c, func(c impl.Class) []int { e, _ := f(d, c); return e.Sets }) {
					t.Errorf("%s with the class %v", name, d)
				}
			}
			if spoils(c, func(c impl.Class) []int { e, _ := f(c, c); return e.Sets }) {
				t.Errorf("%s with itself", name)
			}
		}
	})
}

func TestMemoryOfBalls(t *testing.T) {
	for n := range impl.MaxN + 1 {
		if shares(func() []int { return impl.ThresholdClass(n).Sets }, 99) {
			t.Errorf("ThresholdClass(%d)", n)
		}
		for k := -1; k <= n+1; k++ {
			for s := range 1 << n {
				if shares(func() []int { c, _ := impl.BallClass(n, s, k); return c.Sets }, 99) {
					t.Errorf("BallClass(%d, %d, %d)", n, s, k)
				}
			}
		}
	}
}

func TestMemoryOfDesks(t *testing.T) {
	for _, lines := range [][]string{nil, {""}, {"vc 3:0,1", "help", "settle ", "settle 2:3"}, make([]string, impl.MaxDesk), make([]string, impl.MaxDesk+1)} {
		lines = roomy(lines, "vc 0:")
		before := slices.Clone(whichever(lines))
		impl.RunDesk(lines)
		if !slices.Equal(whichever(lines), before) {
			t.Errorf("RunDesk changes %q to %q", before, whichever(lines))
		}
	}
}
