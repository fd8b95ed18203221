package tests

import (
	"math"
	"slices"
	"testing"

	"loop.example/shatteredsets/impl"
)

func TestRiskOf(t *testing.T) {
	eachSample(func(c impl.Class, list []impl.Example) bool {
		step := 1 + c.N/4*2
		for s := len(list) % step; s < 1<<c.N; s += step {
			if impl.RiskOf(c, s, list) != missed(s, list) {
				return false
			}
		}
		return true
	}, t.Errorf)
}

func TestBestOf(t *testing.T) {
	ties, torn := 0, 0
	eachSample(func(c impl.Class, list []impl.Example) bool {
		want, risk, fine := best(c.Sets, func(s int) int { return missed(s, list) })
		s, least, ok := impl.BestOf(c, list)
		if slices.ContainsFunc(c.Sets, func(u int) bool { return u > want && missed(u, list) == risk }) {
			ties++
		}
		if fine && risk > 0 {
			torn++
		}
		return s == want && least == risk && ok == fine
	}, t.Errorf)
	if ties < 1000 || torn < 1000 {
		t.Errorf("of just %d samples several sets are best, and just %d are fitted by none", ties, torn)
	}
}

func TestRisksByHand(t *testing.T) {
	c := at(3, 1, 2, 4, 7)
	twice := []impl.Example{told(0, false), told(0, false), told(1, true), told(2, true)}
	torn := []impl.Example{told(0, true), told(0, false), told(0, true)}
	for _, x := range []struct {
		c    impl.Class
		list []impl.Example
		s    int
		risk int
		best int
		most int
		ok   bool
	}{
		// An example that is told twice counts twice.
		{c, twice, 1, 4, 2, 1, true}, {c, twice, 7, 2, 2, 1, true}, {c, twice, 4, 1, 2, 1, true}, {c, twice, 6, 0, 2, 1, true},
		{c, torn, 0, 2, 1, 1, true}, {c, torn, 5, 1, 1, 1, true},
		{c, nil, 3, 0, 1, 0, true}, {c, []impl.Example{}, 7, 0, 1, 0, true},
		{c, []impl.Example{told(0, true), told(1, true)}, 3, 0, 7, 0, true},
		{at(3, 5), twice, 5, 3, 5, 3, true},
		{at(3, 5), []impl.Example{told(0, false), told(1, true), told(2, false)}, 5, 3, 5, 3, true},
		{at(3), twice, 6, 0, 0, 0, false}, {at(3), nil, 0, 0, 0, 0, false}, {at(0), nil, 0, 0, 0, 0, false},
		{at(0, 0), nil, 0, 0, 0, 0, true}, {at(0, 0), []impl.Example{}, 0, 0, 0, 0, true},
		{allSets(5), []impl.Example{told(4, true), told(2, true), told(4, false), told(4, true)}, 0, 3, 20, 1, true},
		{at(5, 3, 12, 31), slices.Repeat([]impl.Example{told(4, true)}, impl.MaxSample), 15, 12, 31, 0, true},
	} {
		if got := impl.RiskOf(x.c, x.s, x.list); got != x.risk {
			t.Errorf("RiskOf %v, %d, %v = %d", x.c, x.s, x.list, got)
		}
		if s, most, ok := impl.BestOf(x.c, x.list); s != x.best || most != x.most || ok != x.ok {
			t.Errorf("BestOf %v, %v = %d, %d, %v", x.c, x.list, s, most, ok)
		}
	}
}

func TestNearestTo(t *testing.T) {
	ties := 0
	each(t, func(t *testing.T, c impl.Class) {
		for s := range 1 << c.N {
			want, far, fine := best(c.Sets, func(u int) int { return apart(s, u) })
			if u, n, ok := impl.NearestTo(c, s); u != want || n != far || ok != fine {
				t.Errorf("NearestTo %d = %d, %d, %v", s, u, n, ok)
			}
			if slices.ContainsFunc(c.Sets, func(u int) bool { return u > want && apart(s, u) == far }) {
				ties++
			}
		}
	})
	if ties < 1000 {
		t.Errorf("of just %d sets several are nearest", ties)
	}
}

func TestMeasures(t *testing.T) {
	each(t, func(t *testing.T, c impl.Class) {
		if got, want := impl.CoverRadius(c), covered(c); got != want {
			t.Errorf("CoverRadius = %d, not %d", got, want)
		}
		if got, want := impl.PackDistance(c), packed(c); got != want {
			t.Errorf("PackDistance = %d, not %d", got, want)
		}
		if got, want := impl.NoiseSum(c), noisy(c); got != want {
			t.Errorf("NoiseSum = %d, not %d", got, want)
		}
	})
}

func TestMeasuresByHand(t *testing.T) {
	for _, x := range []struct {
		c                   impl.Class
		cover, pack, noises int
	}{
		{at(0), -1, 0, 0}, {at(3), -1, 0, 0}, {at(5), -1, 0, 0},
		{at(0, 0), 0, 0, 0}, {at(1, 0), 1, 0, 0}, {at(1, 1), 1, 0, 0}, {at(5, 0), 5, 0, 0}, {at(5, 19), 5, 0, 0},
		{at(1, 0, 1), 0, 1, 2}, {allSets(2), 0, 1, 8}, {allSets(5), 0, 1, 160},
		{at(2, 0, 3), 1, 2, 4}, {at(2, 0, 1), 1, 1, 4}, {at(3, 0, 7), 1, 3, 12}, {at(3, 0, 1, 3, 7), 1, 1, 16},
		{at(3, 0, 3, 5, 6), 1, 2, 16}, {at(4, 0, 15), 2, 4, 24}, {at(5, 0, 31), 2, 5, 60}, {at(5, 0, 7), 3, 3, 48},
		{at(5, 0, 7, 25, 30), 2, 3, 88},
		// The nearest two are neither the first ones nor neighbours in order.
		{at(4, 1, 6, 8, 15), 1, 2, 40},
	} {
		if impl.CoverRadius(x.c) != x.cover || impl.PackDistance(x.c) != x.pack || impl.NoiseSum(x.c) != x.noises {
			t.Errorf("of %v CoverRadius = %d, PackDistance = %d, NoiseSum = %d", x.c, impl.CoverRadius(x.c), impl.PackDistance(x.c), impl.NoiseSum(x.c))
		}
	}
	c := at(3, 1, 2, 4)
	for _, x := range [][3]int{{0, 1, 1}, {1, 1, 0}, {2, 2, 0}, {3, 1, 1}, {4, 4, 0}, {5, 1, 1}, {6, 2, 1}, {7, 1, 2}} {
		if s, n, ok := impl.NearestTo(c, x[0]); s != x[1] || n != x[2] || !ok {
			t.Errorf("NearestTo %v, %d = %d, %d, %v", c, x[0], s, n, ok)
		}
	}
	for n := range impl.MaxN + 1 {
		if s, far, ok := impl.NearestTo(at(n), 0); s != 0 || far != 0 || ok {
			t.Errorf("NearestTo no sets of %d points = %d, %d, %v", n, s, far, ok)
		}
	}
}

func TestUnionAndMeet(t *testing.T) {
	mixed := 0
	eachPair(t, func(t *testing.T, c impl.Class, d impl.Class) {
		want := united(c, d)
		if got, ok := impl.UnionClass(c, d); !same(got, want) || !ok {
			t.Errorf("UnionClass of %v and %v = %v, %v", c, d, got, ok)
		}
		if len(want.Sets) > max(len(c.Sets), len(d.Sets)) {
			mixed++
		}
		if got, ok := impl.MeetClass(c, d); !same(got, met(c, d)) || !ok {
			t.Errorf("MeetClass of %v and %v = %v, %v", c, d, got, ok)
		}
	})
	if mixed < 1000 {
		t.Errorf("just %d unions are more than one of both", mixed)
	}
}

func TestUnionAndMeetByHand(t *testing.T) {
	for _, x := range []struct{ a, b, union, meet impl.Class }{
		{at(0), at(0), at(0), at(0)}, {at(0, 0), at(0), at(0, 0), at(0)}, {at(0, 0), at(0, 0), at(0, 0), at(0, 0)},
		{at(3), at(3), at(3), at(3)}, {at(5, 7, 9), at(5), at(5, 7, 9), at(5)},
		{at(3, 0, 7), at(3, 0, 7), at(3, 0, 7), at(3, 0, 7)},
		{at(3, 0, 7), at(3, 1, 2), at(3, 0, 1, 2, 7), at(3)},
		{at(3, 0, 2, 5), at(3, 2, 3, 5, 6), at(3, 0, 2, 3, 5, 6), at(3, 2, 5)},
		{allSets(2), at(2, 3), allSets(2), at(2, 3)},
		{at(5, 31), at(5, 0, 31), at(5, 0, 31), at(5, 31)},
	} {
		for _, both := range [][2]impl.Class{{x.a, x.b}, {x.b, x.a}} {
			if got, ok := impl.UnionClass(both[0], both[1]); !same(got, x.union) || !ok {
				t.Errorf("UnionClass of %v = %v, %v", both, got, ok)
			}
			if got, ok := impl.MeetClass(both[0], both[1]); !same(got, x.meet) || !ok {
				t.Errorf("MeetClass of %v = %v, %v", both, got, ok)
			}
		}
	}
}

func TestProductClass(t *testing.T) {
	eachProduct(t, func(t *testing.T, a impl.Class, b impl.Class) {
		if got, ok := impl.ProductClass(a, b); !same(got, multiplied(a, b)) || !ok {
			t.Errorf("ProductClass = %v, %v", got, ok)
		}
	})
	for _, x := range []struct{ a, b, product impl.Class }{
		{at(0), at(0), at(0)}, {at(0, 0), at(0, 0), at(0, 0)}, {at(0), at(5, 31), at(5)}, {at(5, 31), at(0), at(5)},
		{at(0, 0), at(5, 3, 31), at(5, 3, 31)}, {at(5, 3, 31), at(0, 0), at(5, 3, 31)},
		{at(2), at(3, 1), at(5)}, {at(2, 1), at(3), at(5)}, {at(2), at(3), at(5)},
		{at(2, 1), at(3, 4), at(5, 17)}, {at(3, 4), at(2, 1), at(5, 12)},
		{at(1, 0, 1), at(2, 0, 3), at(3, 0, 1, 6, 7)}, {at(2, 0, 3), at(1, 0, 1), at(3, 0, 3, 4, 7)},
		{allSets(2), allSets(3), allSets(5)},
	} {
		if got, ok := impl.ProductClass(x.a, x.b); !same(got, x.product) || !ok {
			t.Errorf("ProductClass of %v and %v = %v, %v", x.a, x.b, got, ok)
		}
	}
}

func TestBallClass(t *testing.T) {
	for n := range impl.MaxN + 1 {
		for s := range 1 << n {
			for _, k := range []int{math.MinInt, -2, -1, 0, 1, 2, 3, 4, 5, 6, 7, math.MaxInt} {
				want := at(n, around(n, s, k)...)
				if got, ok := impl.BallClass(n, s, k); !same(got, want) || !ok {
					t.Errorf("BallClass(%d, %d, %d) = %v, %v", n, s, k, got, ok)
				}
			}
			one, _ := impl.BallClass(n, s, 0)
			all, _ := impl.BallClass(n, s, n)
			more, _ := impl.BallClass(n, s, n+1)
			if !same(one, at(n, s)) || !same(all, allSets(n)) || !same(more, allSets(n)) {
				t.Errorf("BallClass(%d, %d) = %v, %v, %v", n, s, one, all, more)
			}
		}
	}
	if got, ok := impl.BallClass(4, 9, 1); !same(got, at(4, 1, 8, 9, 11, 13)) || !ok {
		t.Errorf("BallClass(4, 9, 1) = %v, %v", got, ok)
	}
}

func TestThresholdClass(t *testing.T) {
	all := []int{0, 1, 3, 7, 15, 31}
	for n := range impl.MaxN + 1 {
		if got := impl.ThresholdClass(n); !same(got, at(n, all[:n+1]...)) {
			t.Errorf("ThresholdClass(%d) = %v", n, got)
		}
	}
}
