package tests

import (
	"math"
	"slices"
	"testing"

	"loop.example/shatteredsets/impl"
)

func TestInvalidClasses(t *testing.T) {
	for _, c := range invalidClasses() {
		if impl.ShatteredSets(c) != nil || impl.StrongSets(c) != nil || impl.VCDimension(c) != -1 || impl.IsMaximum(c) || impl.IsExtremal(c) {
			t.Errorf("numbers of %v", c)
		}
		if !isZero(impl.ComplementClass(c)) || !isZero(impl.SettleClass(c)) || !isZero(impl.DualClass(c)) || impl.ClassText(c) != "" {
			t.Errorf("changes of %v", c)
		}
		for _, s := range []int{0, 1, 3, -1, 64, math.MinInt, math.MaxInt} {
			invalidSet(t, c, s)
			invalidPoint(t, c, s)
			if got := impl.GrowthOf(c, s); got != -1 {
				t.Errorf("GrowthOf(%v, %d) = %d", c, s, got)
			}
		}
	}
}

func TestInvalidSetsAndPoints(t *testing.T) {
	each(t, func(t *testing.T, c impl.Class) {
		for _, s := range outside(c.N) {
			invalidSet(t, c, s)
		}
		for _, x := range noPoints(c.N) {
			invalidPoint(t, c, x)
		}
		for _, k := range []int{-1, c.N + 1, 64, math.MinInt, math.MaxInt} {
			if got := impl.GrowthOf(c, k); got != -1 {
				t.Errorf("GrowthOf %d = %d", k, got)
			}
		}
	})
}

func invalidSet(t *testing.T, c impl.Class, s int) {
	t.Helper()
	if impl.TraceOf(c, s) != nil || impl.IsShattered(c, s) || impl.IsStrong(c, s) || !isZero(impl.FlipClass(c, s)) {
		t.Errorf("the set %d of %v", s, c)
	}
}

func invalidPoint(t *testing.T, c impl.Class, x int) {
	t.Helper()
	if !isZero(impl.ShiftClass(c, x)) || !isZero(impl.RemovePoint(c, x)) || !isZero(impl.LinkOf(c, x)) {
		t.Errorf("the point %d of %v", x, c)
	}
}

// spoils reports whether f changes its class or the room behind its sets, or whether its result shares memory with them or with another result.
func spoils(c impl.Class, f func(impl.Class) []int) bool {
	room := append(slices.Clone(c.Sets), 77, 78, 79, 80)
	before := slices.Clone(room)
	c.Sets = room[:len(c.Sets)]
	first, second := f(c), f(c)
	want := slices.Clone(second)
	first = first[:cap(first)]
	for i := range first {
		first[i] = -99
	}
	return !slices.Equal(room, before) || !slices.Equal(second, want) || !slices.Equal(f(c), want)
}

// listsOf returns all functions of chapter 1 that return sets, by their names, for a set and a point.
func listsOf(s int, x int) map[string]func(impl.Class) []int {
	return map[string]func(impl.Class) []int{
		"TraceOf":         func(c impl.Class) []int { return impl.TraceOf(c, s) },
		"ShatteredSets":   impl.ShatteredSets,
		"StrongSets":      impl.StrongSets,
		"ComplementClass": func(c impl.Class) []int { return impl.ComplementClass(c).Sets },
		"FlipClass":       func(c impl.Class) []int { return impl.FlipClass(c, s).Sets },
		"ShiftClass":      func(c impl.Class) []int { return impl.ShiftClass(c, x).Sets },
		"SettleClass":     func(c impl.Class) []int { return impl.SettleClass(c).Sets },
		"RemovePoint":     func(c impl.Class) []int { return impl.RemovePoint(c, x).Sets },
		"LinkOf":          func(c impl.Class) []int { return impl.LinkOf(c, x).Sets },
		"DualClass":       func(c impl.Class) []int { return impl.DualClass(c).Sets },
		"ParseClass": func(c impl.Class) []int {
			d, _ := impl.ParseClass(impl.ClassText(c))
			return d.Sets
		},
		"numbers": func(c impl.Class) []int {
			impl.ValidClass(c)
			impl.IsShattered(c, s)
			impl.IsStrong(c, s)
			impl.VCDimension(c)
			impl.GrowthOf(c, x)
			impl.IsMaximum(c)
			impl.IsExtremal(c)
			return nil
		},
	}
}

func TestMemory(t *testing.T) {
	each(t, func(t *testing.T, c impl.Class) {
		for _, arg := range [][2]int{{0, 0}, {whole(c), max(0, c.N-1)}} {
			for name, f := range listsOf(arg[0], arg[1]) {
				if spoils(c, f) {
					t.Errorf("%s of the set %d and the point %d", name, arg[0], arg[1])
				}
			}
		}
	})
	for _, c := range invalidClasses() {
		for name, f := range listsOf(0, 0) {
			if spoils(c, f) {
				t.Errorf("%s of %v", name, c)
			}
		}
	}
}
