package tests

import (
	"math"
	"slices"
	"testing"

	"loop.example/shatteredsets/impl"
)

// traceByPoints returns what TraceOf is to return, point by point.
func traceByPoints(c impl.Class, s int) []int {
	var out []int
	for p := range 1 << c.N {
		for _, t := range c.Sets {
			common := 0
			for x := range c.N {
				if in(s, x) && in(t, x) {
					common += 1 << x
				}
			}
			if common == p {
				out = append(out, p)
				break
			}
		}
	}
	return out
}

// shatteredByParts tells what IsShattered is to tell, part by part.
func shatteredByParts(c impl.Class, s int) bool {
	for p := range 1 << c.N {
		if part(p, s) && !slices.Contains(traceByPoints(c, s), p) {
			return false
		}
	}
	return true
}

// strongByBases tells what IsStrong is to tell, for each set without points of s.
func strongByBases(c impl.Class, s int) bool {
	for base := range 1 << c.N {
		whole := base&s == 0
		for p := range 1 << c.N {
			if part(p, s) && !slices.Contains(c.Sets, base+p) {
				whole = false
			}
		}
		if whole {
			return true
		}
	}
	return false
}

func TestValidClass(t *testing.T) {
	each(t, func(t *testing.T, c impl.Class) {
		if !impl.ValidClass(c) {
			t.Error("is valid")
		}
	})
	for _, c := range []impl.Class{{}, at(0, 0), {N: 3, Sets: []int{}}, at(impl.MaxN), at(impl.MaxN, 0, 31)} {
		if !impl.ValidClass(c) {
			t.Errorf("%v is valid", c)
		}
	}
	for _, c := range invalidClasses() {
		if impl.ValidClass(c) {
			t.Errorf("%v is not valid", c)
		}
	}
	if impl.MaxN != 5 {
		t.Errorf("MaxN = %d", impl.MaxN)
	}
}

func TestTraceAndShattered(t *testing.T) {
	each(t, func(t *testing.T, c impl.Class) {
		var list []int
		dimension := -1
		growth := make([]int, c.N+1)
		for s := range 1 << c.N {
			trace := traceByPoints(c, s)
			if got := impl.TraceOf(c, s); !slices.Equal(got, trace) {
				t.Errorf("TraceOf %d = %v, not %v", s, got, trace)
			}
			holds := shatteredByParts(c, s)
			if impl.IsShattered(c, s) != holds {
				t.Errorf("IsShattered %d is not %v", s, holds)
			}
			if holds {
				list = append(list, s)
				dimension = max(dimension, sizes(s))
			}
			growth[sizes(s)] = max(growth[sizes(s)], len(trace))
		}
		if got := impl.ShatteredSets(c); !slices.Equal(got, list) {
			t.Errorf("ShatteredSets = %v, not %v", got, list)
		}
		if got := impl.VCDimension(c); got != dimension {
			t.Errorf("VCDimension = %d, not %d", got, dimension)
		}
		for k, most := range growth {
			if got := impl.GrowthOf(c, k); got != most {
				t.Errorf("GrowthOf %d = %d, not %d", k, got, most)
			}
		}
		if got := impl.IsExtremal(c); got != (len(list) == len(c.Sets)) {
			t.Errorf("IsExtremal = %v", got)
		}
	})
}

func TestStrong(t *testing.T) {
	each(t, func(t *testing.T, c impl.Class) {
		var list []int
		for s := range 1 << c.N {
			holds := strongByBases(c, s)
			if impl.IsStrong(c, s) != holds {
				t.Errorf("IsStrong %d is not %v", s, holds)
			}
			if holds {
				list = append(list, s)
			}
		}
		if got := impl.StrongSets(c); !slices.Equal(got, list) {
			t.Errorf("StrongSets = %v, not %v", got, list)
		}
	})
}

func TestShatteredByHand(t *testing.T) {
	c := at(3, 0, 1, 3, 7)
	if got := impl.TraceOf(c, 5); !slices.Equal(got, []int{0, 1, 5}) {
		t.Errorf("TraceOf = %v", got)
	}
	if got := impl.ShatteredSets(c); !slices.Equal(got, []int{0, 1, 2, 4}) {
		t.Errorf("ShatteredSets = %v", got)
	}
	d := at(3, 1, 2, 4, 7)
	if got := impl.ShatteredSets(d); !slices.Equal(got, []int{0, 1, 2, 3, 4, 5, 6}) {
		t.Errorf("ShatteredSets = %v", got)
	}
	if got := impl.StrongSets(d); !slices.Equal(got, []int{0}) {
		t.Errorf("StrongSets = %v", got)
	}
	if !impl.IsMaximum(c) || !impl.IsExtremal(c) || impl.IsMaximum(d) || impl.IsExtremal(d) {
		t.Error("IsMaximum or IsExtremal")
	}
	// A cube is extremal, but of fewer sets than one of its dimension might have.
	if e := at(3, 0, 1); impl.IsMaximum(e) || !impl.IsExtremal(e) || impl.VCDimension(e) != 1 {
		t.Error("one edge of 3 points")
	}
}

func TestClassesOfNoneOneAndAll(t *testing.T) {
	for n := range impl.MaxN + 1 {
		none, one, all := coded(n, 0), coded(n, 1<<(1<<n-1)), coded(n, 1<<(1<<n)-1)
		if impl.VCDimension(none) != -1 || len(impl.ShatteredSets(none)) != 0 || len(impl.StrongSets(none)) != 0 || impl.IsShattered(none, 0) || impl.IsStrong(none, 0) || len(impl.TraceOf(none, 0)) != 0 || impl.GrowthOf(none, 0) != 0 || impl.GrowthOf(none, n) != 0 {
			t.Errorf("no sets of %d points", n)
		}
		if !impl.IsMaximum(none) || !impl.IsExtremal(none) || !same(impl.ComplementClass(none), all) || !same(impl.SettleClass(none), none) {
			t.Errorf("no sets of %d points are maximum", n)
		}
		if impl.VCDimension(one) != 0 || !slices.Equal(impl.ShatteredSets(one), []int{0}) || !slices.Equal(impl.StrongSets(one), []int{0}) || impl.GrowthOf(one, 0) != 1 || impl.GrowthOf(one, n) != 1 {
			t.Errorf("one set of %d points", n)
		}
		if !impl.IsMaximum(one) || !impl.IsExtremal(one) || !same(impl.SettleClass(one), at(n, 0)) {
			t.Errorf("one set of %d points is maximum", n)
		}
		if impl.VCDimension(all) != n || len(impl.ShatteredSets(all)) != 1<<n || len(impl.StrongSets(all)) != 1<<n || impl.GrowthOf(all, n) != 1<<n {
			t.Errorf("all sets of %d points", n)
		}
		if !impl.IsMaximum(all) || !impl.IsExtremal(all) || !same(impl.ComplementClass(all), none) || !same(impl.SettleClass(all), all) {
			t.Errorf("all sets of %d points are maximum", n)
		}
	}
}

func TestSauerBound(t *testing.T) {
	rows := [][]int{{1}, {1, 2}, {1, 3, 4}, {1, 4, 7, 8}, {1, 5, 11, 15, 16}, {1, 6, 16, 26, 31, 32}}
	for n, row := range rows {
		for d, want := range row {
			if got := impl.SauerBound(n, d); got != want {
				t.Errorf("SauerBound(%d, %d) = %d, not %d", n, d, got, want)
			}
		}
		if impl.SauerBound(n, n+1) != 1<<n || impl.SauerBound(n, math.MaxInt) != 1<<n {
			t.Errorf("SauerBound(%d, more)", n)
		}
		if impl.SauerBound(n, -1) != 0 || impl.SauerBound(n, math.MinInt) != 0 {
			t.Errorf("SauerBound(%d, less)", n)
		}
	}
	for _, n := range []int{-1, impl.MaxN + 1, 64, math.MinInt, math.MaxInt} {
		for _, d := range []int{-1, 0, 2, math.MaxInt} {
			if got := impl.SauerBound(n, d); got != -1 {
				t.Errorf("SauerBound(%d, %d) = %d", n, d, got)
			}
		}
	}
}

func TestIsMaximum(t *testing.T) {
	bounds := [][]int{{0, 1}, {0, 1, 2}, {0, 1, 3, 4}, {0, 1, 4, 7, 8}, {0, 1, 5, 11, 15, 16}, {0, 1, 6, 16, 26, 31, 32}}
	each(t, func(t *testing.T, c impl.Class) {
		dimension := -1
		for s := range 1 << c.N {
			if shatteredByParts(c, s) {
				dimension = max(dimension, sizes(s))
			}
		}
		if got := impl.IsMaximum(c); got != (len(c.Sets) == bounds[c.N][dimension+1]) {
			t.Errorf("IsMaximum = %v", got)
		}
	})
}

func TestComplementAndFlip(t *testing.T) {
	each(t, func(t *testing.T, c impl.Class) {
		var rest []int
		for s := range 1 << c.N {
			if !slices.Contains(c.Sets, s) {
				rest = append(rest, s)
			}
		}
		if got := impl.ComplementClass(c); !same(got, at(c.N, rest...)) {
			t.Errorf("ComplementClass = %v", got)
		}
		for s := range 1 << c.N {
			var out []int
			for _, u := range c.Sets {
				for x := range c.N {
					if in(s, x) && in(u, x) {
						u -= 1 << x
					} else if in(s, x) {
						u += 1 << x
					}
				}
				out = append(out, u)
			}
			slices.Sort(out)
			if got := impl.FlipClass(c, s); !same(got, at(c.N, out...)) {
				t.Errorf("FlipClass %d = %v", s, got)
			}
		}
	})
}

// shiftedByHand returns what ShiftClass is to return.
func shiftedByHand(c impl.Class, x int) impl.Class {
	var out []int
	for _, s := range c.Sets {
		if in(s, x) && !slices.Contains(c.Sets, s-1<<x) {
			s -= 1 << x
		}
		out = append(out, s)
	}
	slices.Sort(out)
	return at(c.N, out...)
}

func TestShiftAndSettle(t *testing.T) {
	each(t, func(t *testing.T, c impl.Class) {
		for x := range c.N {
			if got := impl.ShiftClass(c, x); !same(got, shiftedByHand(c, x)) {
				t.Errorf("ShiftClass %d = %v", x, got)
			}
		}
		settled := c
		for range 1 << impl.MaxN {
			for x := range c.N {
				settled = shiftedByHand(settled, x)
			}
		}
		if got := impl.SettleClass(c); !same(got, settled) {
			t.Errorf("SettleClass = %v, not %v", got, settled)
		}
	})
	if got := impl.ShiftClass(at(3, 1, 2, 4, 7), 0); !same(got, at(3, 0, 2, 4, 6)) {
		t.Errorf("ShiftClass = %v", got)
	}
	if got := impl.SettleClass(at(3, 1, 2, 7)); !same(got, at(3, 0, 2, 4)) {
		t.Errorf("SettleClass = %v", got)
	}
}

// shortened returns a set without a point, point by point.
func shortened(s int, x int) int {
	out := 0
	for y := range impl.MaxN {
		if in(s, y) && y < x {
			out += 1 << y
		} else if in(s, y) && y > x {
			out += 1 << (y - 1)
		}
	}
	return out
}

func TestRemoveAndLink(t *testing.T) {
	each(t, func(t *testing.T, c impl.Class) {
		for x := range c.N {
			var removed, link []int
			for _, s := range c.Sets {
				removed = append(removed, shortened(s, x))
				if !in(s, x) && slices.Contains(c.Sets, s+1<<x) {
					link = append(link, shortened(s, x))
				}
			}
			slices.Sort(removed)
			slices.Sort(link)
			if got := impl.RemovePoint(c, x); !same(got, at(c.N-1, slices.Compact(removed)...)) {
				t.Errorf("RemovePoint %d = %v", x, got)
			}
			if got := impl.LinkOf(c, x); !same(got, at(c.N-1, link...)) {
				t.Errorf("LinkOf %d = %v", x, got)
			}
		}
	})
	if got := impl.RemovePoint(at(1, 1), 0); !same(got, at(0, 0)) {
		t.Errorf("RemovePoint = %v", got)
	}
	if got := impl.LinkOf(at(1, 0, 1), 0); !same(got, at(0, 0)) {
		t.Errorf("LinkOf = %v", got)
	}
}

func TestDualClass(t *testing.T) {
	for _, x := range []struct {
		in, want impl.Class
	}{
		{at(3, 0, 1, 3, 7), at(4, 8, 12, 14)},
		{at(0), at(0)}, {at(0, 0), at(1)}, {at(3), at(0, 0)}, {at(3, 0), at(1, 0)}, {at(3, 7), at(1, 1)},
		{at(2, 0, 3), at(2, 2)}, {at(2, 0, 1, 2, 3), at(4, 10, 12)},
		{at(5, 1, 2, 4, 8, 16), at(5, 1, 2, 4, 8, 16)}, {at(5, 0, 7, 9, 30, 31), at(5, 22, 24, 26, 28)},
		{at(5, 0, 1, 2, 3, 4, 5), impl.Class{}}, {coded(5, 1<<32-1), impl.Class{}},
	} {
		if got := impl.DualClass(x.in); !same(got, x.want) {
			t.Errorf("DualClass of %v = %v, not %v", x.in, got, x.want)
		}
	}
	each(t, func(t *testing.T, c impl.Class) {
		got := impl.DualClass(c)
		if len(c.Sets) > impl.MaxN {
			if !isZero(got) {
				t.Errorf("DualClass = %v", got)
			}
			return
		}
		var out []int
		for x := range c.N {
			u := 0
			for i, s := range c.Sets {
				if in(s, x) {
					u += 1 << i
				}
			}
			out = append(out, u)
		}
		slices.Sort(out)
		if !same(got, at(len(c.Sets), slices.Compact(out)...)) {
			t.Errorf("DualClass = %v", got)
		}
	})
}

func TestClassText(t *testing.T) {
	for _, x := range []struct {
		c    impl.Class
		want string
	}{{at(3), "3:"}, {impl.Class{}, "0:"}, {at(0, 0), "0:0"}, {at(3, 0, 1, 3, 7), "3:0,1,3,7"}, {at(5, 9, 10, 31), "5:9,10,31"}} {
		if got := impl.ClassText(x.c); got != x.want {
			t.Errorf("ClassText of %v = %q", x.c, got)
		}
		if got, ok := impl.ParseClass(x.want); !ok || !same(got, x.c) {
			t.Errorf("ParseClass of %q = %v", x.want, got)
		}
	}
}

// wrongTexts are the texts of no class.
func wrongTexts() []string {
	return []string{
		"", ":", ":0", "3", "0", "3:01", "03:1", "3:00", "3:,", "3:1,", "3:,1", "3:1,,2", "3:1:2", "3::", "3:1:", "3;1", "3 :1", " 3:1", "3:1 ", "2:0, 1",
		"3:1\n", "\n3:1", "3:1\x00", "+3:1", "3:+1", "-1:0", "-0:0", "3:-0", "3:-1", "6:0", "6:", "10:0", "x:0", "3:x", "3:1.0", "3:1e0", "3:0x1", "3:1_0", "5:1_0",
		"3:1,1", "3:2,1", "3:8", "0:1", "5:32", "1:2", "5:99999999999999999999", "99999999999999999999:0", "5:18446744073709551617", "18446744073709551619:1", "3:١", "３:1", "3:0,1,2,3,4,5,6,7,8",
	}
}

func TestParseClassWrong(t *testing.T) {
	for _, s := range wrongTexts() {
		if c, ok := impl.ParseClass(s); ok || !isZero(c) {
			t.Errorf("ParseClass(%q) = %v, %v", s, c, ok)
		}
	}
}
