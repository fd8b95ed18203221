package tests

import (
	"math/bits"
	"slices"
	"strings"
	"testing"

	"loop.example/shatteredsets/impl"
)

// puts returns the class that a function makes of two classes, which it is to take.
func puts(t *testing.T, f func(impl.Class, impl.Class) (impl.Class, bool), a impl.Class, b impl.Class) impl.Class {
	t.Helper()
	c, ok := f(a, b)
	if !ok || !impl.ValidClass(c) {
		t.Fatalf("of the classes %v and %v: %v, %v", a, b, c, ok)
	}
	return c
}

// ball returns BallClass, which is to be one.
func ball(t *testing.T, n int, s int, k int) impl.Class {
	t.Helper()
	c, ok := impl.BallClass(n, s, k)
	if !ok || !impl.ValidClass(c) {
		t.Fatalf("BallClass(%d, %d, %d) = %v, %v", n, s, k, c, ok)
	}
	return c
}

// TestPromise12Union is of the promise as chapter 5 tells it: a class and its complement are all sets, and have none both.
func TestPromise12Union(t *testing.T) {
	each(t, func(t *testing.T, c impl.Class) {
		d := impl.ComplementClass(c)
		if !same(impl.ComplementClass(d), c) || !same(puts(t, impl.UnionClass, c, d), allSets(c.N)) || !same(puts(t, impl.MeetClass, c, d), at(c.N)) {
			t.Errorf("ComplementClass = %v", d)
		}
	})
}

// TestPromise22Risk is of the part of the promise that chapter 5 keeps.
func TestPromise22Risk(t *testing.T) {
	eachSample(func(c impl.Class, list []impl.Example) bool {
		left := impl.ConsistentOf(impl.ConsistentOf(c, list[:len(list)/2]), list[len(list)/2:]).Sets
		if !slices.Equal(left, impl.ConsistentOf(c, list).Sets) {
			return false
		}
		for _, s := range c.Sets {
			if (impl.RiskOf(c, s, list) == 0) != slices.Contains(left, s) {
				return false
			}
		}
		return true
	}, t.Errorf)
}

// TestPromise32Risk is of the part of the promise that chapter 5 keeps.
func TestPromise32Risk(t *testing.T) {
	each(t, func(t *testing.T, c impl.Class) {
		for _, points := range [][]int{nil, pointsIn(whole(c)), append(pointsIn(whole(c)), pointsIn(whole(c))...), pointsIn(whole(c) & 21)} {
			for s := range 1 << c.N {
				list, ok := impl.LabelsOf(c, points, s)
				if !ok || len(list) != len(points) || impl.RiskOf(c, s, list) != 0 || impl.RiskOf(c, whole(c)-s, list) != len(points) {
					t.Errorf("LabelsOf %v, %d = %v, %v", points, s, list, ok)
				}
			}
		}
	})
}

// TestPromise57Risk is of the promise as chapter 5 tells it: what fits has no risk.
func TestPromise57Risk(t *testing.T) {
	found := 0
	eachSample(func(c impl.Class, list []impl.Example) bool {
		plan := impl.TeachingPlan(c)
		s, ok := impl.LearnRepresentation(c, plan, list)
		if !ok {
			return s == 0
		}
		found++
		seen := 0
		for _, e := range list {
			seen |= 1 << e.Point
		}
		for i, u := range c.Sets {
			if u != s && part(plan[i], seen) && impl.RiskOf(c, u, list) == 0 {
				return false
			}
		}
		return slices.Contains(c.Sets, s) && impl.RiskOf(c, s, list) == 0
	}, t.Errorf)
	if found < 1000 {
		t.Errorf("just %d samples tell a set", found)
	}
}

func TestPromise58(t *testing.T) {
	eachSample(func(c impl.Class, list []impl.Example) bool {
		for s := len(list) % 2; s < 1<<c.N; s += 2 {
			a, b := impl.RiskOf(c, s, list), impl.RiskOf(c, whole(c)-s, list)
			if a < 0 || b < 0 || a+b != len(list) {
				return false
			}
		}
		return true
	}, t.Errorf)
}

func TestPromise59(t *testing.T) {
	eachSample(func(c impl.Class, list []impl.Example) bool {
		s, risk, ok := impl.BestOf(c, list)
		if !ok {
			return len(c.Sets) == 0 && s == 0 && risk == 0
		}
		for _, u := range c.Sets {
			other := impl.RiskOf(c, u, list)
			if other < risk || other == risk && u < s {
				return false
			}
		}
		fine := len(impl.ConsistentOf(c, list).Sets) > 0
		return slices.Contains(c.Sets, s) && impl.RiskOf(c, s, list) == risk && (risk == 0) == fine
	}, t.Errorf)
}

func TestPromise60(t *testing.T) {
	each(t, func(t *testing.T, c impl.Class) {
		most := impl.CoverRadius(c)
		for s := range 1 << c.N {
			u, far, ok := impl.NearestTo(c, s)
			if ok != (len(c.Sets) > 0) {
				t.Fatalf("NearestTo %d = %d, %d, %v", s, u, far, ok)
			}
			if !ok {
				continue
			}
			if !slices.Contains(c.Sets, u) || far != sizes(s^u) || far > most || (far == 0) != slices.Contains(c.Sets, s) {
				t.Errorf("NearestTo %d = %d, %d", s, u, far)
			}
			for _, v := range c.Sets {
				if sizes(s^v) < far || sizes(s^v) == far && v < u {
					t.Errorf("NearestTo %d = %d, %d, and not %d", s, u, far, v)
				}
			}
		}
	})
}

func TestPromise61(t *testing.T) {
	each(t, func(t *testing.T, c impl.Class) {
		got := impl.CoverRadius(c)
		if (got == 0) != same(c, allSets(c.N)) {
			t.Errorf("CoverRadius = %d", got)
		}
		for i := range c.Sets {
			if d := without(c, i); len(d.Sets) > 0 && impl.CoverRadius(d) < got {
				t.Errorf("CoverRadius of %v is less than %d", d, got)
			}
		}
		for s := range 1 << c.N {
			if impl.CoverRadius(impl.FlipClass(c, s)) != got {
				t.Errorf("CoverRadius is not %d flipped by %d", got, s)
			}
		}
	})
}

func TestPromise62(t *testing.T) {
	meets := 0
	each(t, func(t *testing.T, c impl.Class) {
		pack := impl.PackDistance(c)
		if (pack == 1) != (len(impl.EdgesOf(c)) > 0) || (pack == 0) != (len(c.Sets) < 2) {
			t.Errorf("PackDistance = %d", pack)
		}
		for k := 0; 2*k <= pack && pack > 0; k++ {
			touch := false
			for i, s := range c.Sets {
				for _, u := range c.Sets[:i] {
					both := puts(t, impl.MeetClass, ball(t, c.N, s, k), ball(t, c.N, u, k))
					touch = touch || len(both.Sets) > 0
				}
			}
			if touch != (2*k == pack) {
				t.Errorf("PackDistance = %d, and balls of %d have a set both: %v", pack, k, touch)
			}
			if touch {
				meets++
			}
		}
	})
	if meets < 20 {
		t.Errorf("just %d classes have balls that meet", meets)
	}
}

func TestPromise63(t *testing.T) {
	each(t, func(t *testing.T, c impl.Class) {
		got := impl.NoiseSum(c)
		if len(c.Sets) < 2 && got != 0 || got > impl.NoiseSum(allSets(c.N)) {
			t.Errorf("NoiseSum = %d", got)
		}
		if len(c.Sets) == 1<<c.N && got != c.N<<c.N {
			t.Errorf("NoiseSum of all sets = %d", got)
		}
		for i := range c.Sets {
			if d := without(c, i); impl.NoiseSum(d) > got {
				t.Errorf("NoiseSum of %v is more than %d", d, got)
			}
		}
		for s := range 1 << c.N {
			if impl.NoiseSum(impl.FlipClass(c, s)) != got {
				t.Errorf("NoiseSum is not %d flipped by %d", got, s)
			}
		}
	})
}

func TestPromise64(t *testing.T) {
	most := 0
	eachPair(t, func(t *testing.T, c impl.Class, d impl.Class) {
		union, meet := puts(t, impl.UnionClass, c, d), puts(t, impl.MeetClass, c, d)
		bound := impl.VCDimension(c) + impl.VCDimension(d) + 1
		got := impl.VCDimension(union)
		if got > bound || len(union.Sets)+len(meet.Sets) != len(c.Sets)+len(d.Sets) {
			t.Errorf("UnionClass of %v and %v = %v, MeetClass = %v", c, d, union, meet)
		}
		if got == bound {
			most++
		}
	})
	if most < 100 {
		t.Errorf("just %d unions shatter as much as they may", most)
	}
}

func TestPromise65(t *testing.T) {
	eachPair(t, func(t *testing.T, c impl.Class, d impl.Class) {
		meet := puts(t, impl.MeetClass, c, d)
		others := puts(t, impl.UnionClass, impl.ComplementClass(c), impl.ComplementClass(d))
		if !among(meet.Sets, c.Sets) || !among(meet.Sets, d.Sets) || !same(impl.ComplementClass(meet), others) {
			t.Errorf("MeetClass of %v and %v = %v", c, d, meet)
		}
	})
}

func TestPromise66(t *testing.T) {
	eachProduct(t, func(t *testing.T, a impl.Class, b impl.Class) {
		c := puts(t, impl.ProductClass, a, b)
		if c.N != a.N+b.N || len(c.Sets) != len(a.Sets)*len(b.Sets) {
			t.Errorf("ProductClass = %v", c)
		}
		if len(c.Sets) == 0 {
			return
		}
		for _, f := range []func(impl.Class) int{impl.VCDimension, impl.LittlestoneOf, impl.TeachingDimension, impl.EasiestTeaching, impl.RecursiveDimension} {
			if f(c) != f(a)+f(b) {
				t.Errorf("of ProductClass = %v a number is %d, and of both %d and %d", c, f(c), f(a), f(b))
			}
		}
		for _, s := range a.Sets {
			for _, u := range b.Sets {
				if impl.TeachingNumber(c, s+u<<a.N) != impl.TeachingNumber(a, s)+impl.TeachingNumber(b, u) {
					t.Errorf("TeachingNumber of %d and %d in ProductClass = %v", s, u, c)
				}
			}
		}
		if impl.EulerOf(c) != impl.EulerOf(a)*impl.EulerOf(b) {
			t.Errorf("EulerOf ProductClass = %v is %d", c, impl.EulerOf(c))
		}
	})
}

func TestPromise67(t *testing.T) {
	for n := range impl.MaxN + 1 {
		for s := range 1 << n {
			for k := -2; k <= n+2; k++ {
				c := ball(t, n, s, k)
				if !impl.IsMaximum(c) || len(c.Sets) != impl.SauerBound(n, k) || c.N != n {
					t.Errorf("BallClass(%d, %d, %d) = %v", n, s, k, c)
				}
				left := max(0, n-k)
				if k < 0 {
					left = -1
				}
				if got := impl.CoverRadius(c); got != left {
					t.Errorf("CoverRadius of BallClass(%d, %d, %d) = %d", n, s, k, got)
				}
				for _, u := range c.Sets {
					if sizes(s^u) > k {
						t.Errorf("BallClass(%d, %d, %d) has %d", n, s, k, u)
					}
				}
			}
		}
	}
}

func TestPromise68(t *testing.T) {
	for n := range impl.MaxN + 1 {
		c := impl.ThresholdClass(n)
		// The numbers of binary digits are those of the logarithms of n+1, rounded down and up.
		down, up := bits.Len(uint(n+1))-1, bits.Len(uint(n))
		if !impl.ValidClass(c) || c.N != n || len(c.Sets) != n+1 || impl.LittlestoneOf(c) != down || impl.MembershipDepth(c) != up {
			t.Errorf("ThresholdClass(%d) = %v", n, c)
		}
		for _, s := range c.Sets {
			// The halving rule finds each of them with few mistakes, whatever it is asked.
			for x := range n {
				list := labels(t, c, s, whole(c))
				list = slices.Concat(list[x:], list[:x])
				if impl.HalvingRun(c, list) > down {
					t.Errorf("HalvingRun of ThresholdClass(%d) and %v", n, list)
				}
			}
		}
	}
}

func TestPromise69(t *testing.T) {
	lines := append(oddLines(), "vc 3:0,1", "euler 4:1,2,3,4,5,6,8,9,10", "maximum 2:", "settle 5:7,8,31", "complement 3:1")
	for start := 0; start < len(lines); start += 7 {
		desk := lines[start:min(start+impl.MaxDesk, len(lines))]
		all := impl.RunDesk(desk)
		for k := range len(desk) + 1 {
			first := impl.RunDesk(desk[:k])
			if strings.Count(first, "\n") != k || !strings.HasPrefix(all, first) || k > 0 && !strings.HasSuffix(first, "\n") {
				t.Fatalf("RunDesk of %q = %q, and of all of %q = %q", desk[:k], first, desk, all)
			}
		}
	}
}
